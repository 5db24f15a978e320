/- The contracts of the document's digit, word and turn. · The contract of the document's whole: some bytes with what comes behind them. · Rows of words: cells, what is handed back, a word or a byte at a place. · The contract of the program's turn: a word turned to the right. · Blocks that are known whole; arrays as values; rows of words and bytes in them. · The contract of the program's words. · The contract of the program's next: the state behind one more block. · The contract of the program's digest: a state's bytes. · SHA-256 piece by piece, as plain mathematics: the state behind the whole blocks, what is left of them, and how both go on. · More laws at one operation: a struct built; a row read and written in the midst of a block that is known whole. -/
import Derived.Test.YtjgegggcbjecbaaDoorSha
import Derived.Test.YtjgegggcbjecbaaDoorBase
import Derived.WalkMore
import Derived.Laws.BitsAllLaws
import Derived.Laws.BitsLemmas
import Derived.Lib.Hide
import Derived.Deep.RegionHeldLaw
import Derived.Laws.OwnMore
import Derived.Below
import Derived.Deep.Draws
import Derived.Laws.Rows
import Derived.Laws.Tables
import Derived.Outline
import Derived.Deep.Cut
import Derived.Deep.DeepMust
import Derived.Deep.MidRow
namespace Go.Proofs.YtjgegggcbjecbaaDoor
open Go Go.RowKit

theorem dz_str_drop (s : ByteArray) (k : Nat) (h : k < s.size) : s.data.toList.drop k = s[k] :: s.data.toList.drop (k + 1) := by
  have hl : k < s.data.toList.length := by rw [Array.length_toList]; exact h
  rw [List.drop_eq_getElem_cons hl]
  rfl

set_option maxRecDepth 100000 in
set_option maxHeartbeats 1000000 in
theorem digit_any (c : UInt8) (w : World) : Calls Tryd.prog 66 #[.int .u8 (c.toNat : Int)] w fun e w' => e = .returned (.int .i64 (Sh.digit c.toNat : Int)) ∧ w = w' := by
  have hx : (c.toNat : Int) < 256 := by have := c.toNat_lt; omega
  unfold Sh.digit
  by_cases h1 : 48 ≤ c.toNat ∧ c.toNat ≤ 57
  · rw [if_pos h1]
    obtain ⟨h1, h2⟩ := h1
    have e1 : IntKind.u8.wrap ((c.toNat : Int) - 48) = (c.toNat : Int) - 48 := by rw [IntKind.wrap_u8]; omega
    have e2 : ((c.toNat - 48 : Nat) : Int) = (c.toNat : Int) - 48 := by omega
    rw [e2]
    go_enter Tryd.func66, Tryd.ntmps66
    go_wp2
    go_ret
    exact ⟨by first | rfl | (rw [IntWalk.i64_in _ (by omega)]), rfl⟩
  · rw [if_neg h1]
    by_cases h2 : 97 ≤ c.toNat ∧ c.toNat ≤ 102
    · rw [if_pos h2]
      obtain ⟨h2, h3⟩ := h2
      have h4 : ¬ c.toNat ≤ 57 := by omega
      have e1 : IntKind.u8.wrap ((c.toNat : Int) - 97) = (c.toNat : Int) - 97 := by rw [IntKind.wrap_u8]; omega
      have e2 : ((c.toNat - 87 : Nat) : Int) = (c.toNat : Int) - 97 + 10 := by omega
      rw [e2]
      go_enter Tryd.func66, Tryd.ntmps66
      go_wp2
      go_ret
      exact ⟨by first | rfl | (rw [IntWalk.i64_in _ (by omega)]), rfl⟩
    · rw [if_neg h2]
      have d1 : (decide (48 ≤ (c.toNat : Int)) && decide ((c.toNat : Int) ≤ 57)) = false := by simp; omega
      have d2 : (decide (97 ≤ (c.toNat : Int)) && decide ((c.toNat : Int) ≤ 102)) = false := by simp; omega
      by_cases h3 : c.toNat < 48
      · have h4 : ¬ 48 ≤ c.toNat := by omega
        have h5 : ¬ 97 ≤ c.toNat := by omega
        go_enter Tryd.func66, Tryd.ntmps66
        go_wp2
        go_ret
        exact ⟨rfl, rfl⟩
      · have h4 : 48 ≤ c.toNat := by omega
        have h5 : ¬ c.toNat ≤ 57 := by omega
        by_cases h6 : c.toNat < 97
        · have h7 : ¬ 97 ≤ c.toNat := by omega
          go_enter Tryd.func66, Tryd.ntmps66
          go_wp2
          go_ret
          exact ⟨rfl, rfl⟩
        · have h7 : 97 ≤ c.toNat := by omega
          have h8 : ¬ c.toNat ≤ 102 := by omega
          go_enter Tryd.func66, Tryd.ntmps66
          go_wp2
          go_ret
          exact ⟨rfl, rfl⟩

theorem turn_eq {x n : Nat} (hx : x < 4294967296) : bits .or .u32 ((x : Int) / 2 ^ n) (IntKind.u32.wrap ((x : Int) * 2 ^ (32 - n))) = ((Sh.turn x n : Nat) : Int) := by
  have e1 : (x : Int) / 2 ^ n = ((x / 2 ^ n : Nat) : Int) := by push_cast; rfl
  have e2 : IntKind.u32.wrap ((x : Int) * 2 ^ (32 - n)) = ((x * 2 ^ (32 - n) % 4294967296 : Nat) : Int) := by rw [IntKind.wrap_u32, Int.natCast_emod, Int.natCast_mul, Int.natCast_pow]; rfl
  rw [e1, e2]
  exact u32_or_nat _ _ (Nat.lt_of_le_of_lt (Nat.div_le_self _ _) hx) (Nat.mod_lt _ (by decide))

set_option maxRecDepth 100000 in
theorem turn_any (x n : Nat) (w : World) (hx : x < 4294967296) (hn : n < 32) :
    Calls Tryd.prog 67 #[.int .u32 (x : Int), .int .u64 (n : Int)] w fun e w' => e = .returned (.int .u32 (Sh.turn x n : Int)) ∧ w = w' := by
  have h1 : IntKind.u64.wrap (32 - (n : Int)) = ((32 - n : Nat) : Int) := by rw [IntWalk.u64_in _ (by omega)]; omega
  have h2 : ((32 - n : Nat) : Int) ≤ 32 := by omega
  have h3 : (n : Int) ≤ 32 := by omega
  have HE := Lib.hid (turn_eq (n := n) hx)
  generalize 32 - n = m at *
  go_enter Tryd.func67, Tryd.ntmps67
  go_wp2
  go_ret
  exact ⟨by rw [← HE.out]; rfl, rfl⟩

set_option maxRecDepth 100000 in
set_option maxHeartbeats 1000000 in
theorem word_any (s : ByteArray) (i : Nat) (w : World) (hi : 8 * i + 8 ≤ s.size) (hs : s.size ≤ 4611686018427387904) :
    Calls Tryd.prog 44 #[.string s, .int .i64 (i : Int)] w fun e w' => e = .returned (.int .u32 (Sh.wordOf 0 ((s.data.toList.drop (8 * i)).take 8) : Int)) ∧ w = w' := by
  have hd := dz_str_drop s
  have hlen : s.data.toList.length = s.size := by rw [Array.length_toList]; rfl
  have hsn : ∀ j, j < 8 → (hj : 8 * i + j < s.size) → (s.data.toList.drop (8 * i)).take (j + 1) = (s.data.toList.drop (8 * i)).take j ++ [s[8 * i + j]] := by
    intro j _ hj
    have h1 : j < (s.data.toList.drop (8 * i)).length := by rw [List.length_drop, hlen]; omega
    rw [List.take_succ_eq_append_getElem h1]
    congr 1
    have h2 := hd (8 * i + j) hj
    rw [← List.drop_drop, List.drop_eq_getElem_cons h1] at h2
    rw [(List.cons.inj h2).1]
  generalize s.data.toList.drop (8 * i) = l at *
  have HS := Lib.hid hsn
  clear hsn hd hlen
  go_enter Tryd.func44, Tryd.ntmps44
  go_wp2
  go_loop [5, 6] (fun x iv => ∃ (j X : Nat), j ≤ 8 ∧ iv = .int .i64 (8 * (i : Int) + (j : Int)) ∧ x = .int .u32 (X : Int) ∧ X = Sh.wordOf 0 (l.take j)) (fun _ iv => 8 * i + 8 - (intOf iv).toNat)
  case atStart => exact ⟨0, 0, by omega, by go_num, rfl, rfl⟩
  case round =>
    obtain ⟨j, X, hj, rfl, rfl, hX⟩ := hrel
    by_cases hlt : j < 8
    · have hin : 8 * i + j < s.size := by omega
      have h2 := HS.out j hlt hin
      have CD := Lib.hid (digit_any s[8 * i + j])
      have hdg := Sh.digit_le s[8 * i + j].toNat
      have HX := Lib.hid (show ((Sh.wordOf 0 (l.take (j + 1)) : Nat) : Int) = (16 * (X : Int) % 4294967296 + (Sh.digit s[8 * i + j].toNat : Int)) % 4294967296 by rw [h2, Sh.wordOf_snoc, ← hX]; unfold Sh.add; omega)
      clear hX h2
      generalize Sh.digit s[8 * i + j].toNat = dg at *
      go_wp2_with fail
      refine (CD.out _).mono ?_; rintro e' w' ⟨rfl, rfl⟩
      go_wp2_with fail
      go_round
      case rel => exact ⟨j + 1, _, by omega, by go_num, by rw [HX.out], rfl⟩
      case measure => simp [intOf]; omega
    · obtain rfl : j = 8 := by omega
      go_wp2
      go_ret
      subst hX
      exact ⟨rfl, rfl⟩
end Go.Proofs.YtjgegggcbjecbaaDoor

namespace Go.Proofs.YtjgegggcbjecbaaDoor
open Go Go.RowKit

theorem dz_byte_cell {x : Nat} (h : x < 256) : bv [UInt8.ofNat x] = [Value.int .u8 (x : Int)] := by
  unfold bv
  rw [List.map_cons, List.map_nil, UInt8.toNat_ofNat', Nat.mod_eq_of_lt (by omega)]

theorem bv_zero : bv [0] = [Value.int .u8 0] := rfl
theorem bv_128 : bv [128] = [Value.int .u8 128] := rfl

set_option maxRecDepth 100000 in
set_option maxHeartbeats 2000000 in
theorem whole_any (A : Option Addr) (c : Nat) (l : List UInt8) (w : World) (hr : Rd w w.heap.size A l.length (bv l)) (h : l.length ≤ 140737488351232) :
    Calls Tryd.prog 45 #[.slice A l.length c] w (Got (Sh.whole l) w) := by
  obtain ⟨i0, hi, hz0, hz1, hz2⟩ := info_parts infoU8
  have HR := Lib.hid hr
  have hz : Sh.zeros l.length < 64 := by unfold Sh.zeros; omega
  have HZ := Lib.hid (show Sh.zeros l.length = (119 - l.length % 64) % 64 from rfl)
  have hN : 8 * l.length % 18446744073709551616 = 8 * l.length := by omega
  have HWH : Sh.whole l = (l ++ [128] ++ List.replicate (Sh.zeros l.length) 0) ++ Sh.be8 (8 * l.length) 8 := by unfold Sh.whole; rw [hN]
  have HWL := Sh.whole_length l
  obtain ⟨T, hT⟩ : ∃ T, T = Sh.whole l := ⟨_, rfl⟩
  rw [← hT] at HWH HWL ⊢
  obtain ⟨Z, hZ⟩ : ∃ Z, Z = Sh.zeros l.length := ⟨_, rfl⟩
  rw [← hZ] at HWH HWL hz HZ
  obtain ⟨N, hNN⟩ : ∃ N, N = 8 * l.length := ⟨_, rfl⟩
  rw [← hNN] at HWH
  have HW := Lib.hid HWH
  have HLL := Lib.hid HWL
  have hNb : N < 1125899906842624000 := by omega
  have hNw : IntKind.u64.wrap ((l.length : Int) * 8) = (N : Int) := by rw [IntWalk.u64_in _ (by omega)]; omega
  have hlu : IntKind.u64.wrap (l.length : Int) = (l.length : Int) := IntWalk.u64_in _ (by omega)
  clear hr hN hT hZ HWH HWL hNN
  go_enter Tryd.func45, Tryd.ntmps45
  go_wp2_with (first
    | (at_builtin; (refine wp_app' _ rfl (.tmp 6) (.tmp 7) 27 27 rfl w.heap.size 5 i0 _ 1 Tryd.underlying27 hi hz0 hz1 hz2 rfl (.slice (some ⟨w.heap.size, 0, none⟩) 0 0) 0 [] rfl (World.ownsRow_made w #[] 0 (Nat.le_refl _) (Nat.zero_le _) rfl) (.slice A l.length c) l.length (bv l) rfl ((HR.out.alloc (Nat.le_refl _) _).src Tryd.underlying27 c (bv_one l)) (by unfold maxLen; omega) (by omega) (by simp) ?_); intro v1 w1 ho1 hb1; rw [Nat.zero_add, List.nil_append] at ho1; have hB1 := (Below.refl w.heap.size w).alloc (Nat.le_refl _) _ |>.trans hb1; have hs1 := hB1.size; clear hb1)
    | (at_builtin; go_must (refine wp_app' _ rfl (.tmp 8) (.tmp 9) 27 27 rfl w.heap.size 5 i0 _ 1 Tryd.underlying27 hi hz0 hz1 hz2 rfl v1 l.length (bv l) rfl (ho1.alloc _) _ 1 [Value.int .u8 128] rfl (new_src Tryd.underlying27 w1 [Value.int .u8 128] 1 1 5 (0, 0) rfl (by intro u hu; simp at hu; subst hu; rfl)) (by unfold maxLen; omega) (by omega) (by simp; omega) ?_); intro v2 w2 ho2 hb2; have hB2 := (hB1.alloc hs1 _).trans hb2))
  rw [← bv_128, ← bv_append] at ho2
  clear ho1 hB1 hs1 hb2
  go_loopw [3] (fun v wr => ∃ (z n : Nat) (A' : Option Addr) (c' : Nat), z ≤ Z ∧ n = l.length + 1 + z ∧ v = .slice A' n c' ∧ wr.ownsRow w.heap.size 5 1 v n (bv (l ++ [128] ++ List.replicate z 0)) ∧ Below w.heap.size w wr) (fun v _ => l.length + 100 - (match v with | .slice _ n _ => n | _ => 0))
  case atStart =>
    obtain ⟨A', c', hv, -, -, -⟩ := own_form ho2
    exact ⟨0, l.length + 1, A', c', Nat.zero_le _, rfl, hv, by simpa using ho2, hB2⟩
  case round =>
    obtain ⟨z, n, A', c', hzZ, hn, rfl, ho, hb⟩ := hrel
    have hsz := hb.size
    have hnb : n ≤ 140737488351300 := by omega
    by_cases hlt : z < Z
    · have hq : ((n : Int) % 64 != 56) = true := by rw [bne_iff_ne]; have := HZ.out; omega
      have HN := Lib.hid hn
      clear hn
      go_wp2_with (at_builtin; go_must (refine wp_app' _ rfl (.tmp 15) (.tmp 16) 27 27 rfl w.heap.size 5 i0 _ 1 Tryd.underlying27 hi hz0 hz1 hz2 rfl (.slice A' n c') n (bv (l ++ [128] ++ List.replicate z 0)) rfl (ho.alloc _) _ 1 [Value.int .u8 0] rfl (new_src Tryd.underlying27 wr [Value.int .u8 0] 1 1 5 (0, 0) rfl (by intro u hu; simp at hu; subst hu; rfl)) (by unfold maxLen; omega) (by omega) (by simp; omega) ?_); intro v3 w3 ho3 hb3; rw [← bv_zero, ← bv_append] at ho3; obtain ⟨A3, c3, hv3, -, -, -⟩ := own_form ho3; subst hv3)
      go_roundw
      case rel => exact ⟨z + 1, n + 1, A3, c3, by omega, by rw [HN.out]; omega, rfl, by rw [List.replicate_succ', ← List.append_assoc]; exact ho3, (hb.alloc hsz _).trans hb3⟩
      case measure => have := HN.out; simp; omega
    · obtain rfl : z = Z := by omega
      have hq : ((n : Int) % 64 != 56) = false := by rw [bne_eq_false_iff_eq]; have := HZ.out; omega
      have HTL := Lib.hid (show n + 8 = T.length by have := HLL.out; omega)
      have HN := Lib.hid (show n = (l ++ [128] ++ List.replicate z 0).length by simp; omega)
      have HT2 := HW.out
      clear hn
      generalize l ++ [128] ++ List.replicate z 0 = P0 at *
      go_wp2_with fail
      go_loopw [3, 5] (fun v iv wr => ∃ (k : Nat) (q : Int) (pre : List UInt8), k ≤ 8 ∧ iv = .int .i64 q ∧ q + 1 = (k : Int) ∧ wr.ownsRow w.heap.size 5 1 v pre.length (bv pre) ∧ pre ++ Sh.be8 N k = T ∧ Below w.heap.size w wr) (fun _ iv _ => (intOf iv + 1).toNat)
      case atStart => exact ⟨8, _, P0, by omega, rfl, by omega, by rw [← HN.out]; exact ho, HT2.symm, hb⟩
      case round =>
        obtain ⟨k, q, pre, hk, rfl, hqk, hov, hpre, hbk⟩ := hrel
        have hszk := hbk.size
        have hlen : pre.length + k = T.length := by rw [← hpre, List.length_append, Sh.be8_length]
        have HPRE := Lib.hid hpre
        have hpl : pre.length ≤ 140737488351320 := by have := HTL.out; omega
        clear hpre
        by_cases h0 : k = 0
        · subst h0
          obtain rfl : q = -1 := by omega
          go_wp2_with fail
          go_ret
          have hp := HPRE.out
          rw [Sh.be8, List.append_nil] at hp
          subst hp
          obtain ⟨A4, c4, rfl, hc4, hm4, -⟩ := own_form hov
          exact ⟨A4, c4, rfl, ⟨hc4, by simpa [maxLen] using hm4⟩, Rd.of_own hov, hbk⟩
        · obtain ⟨k, rfl⟩ : ∃ k', k = k' + 1 := ⟨k - 1, by omega⟩
          obtain rfl : q = (k : Int) := by omega
          obtain ⟨s, hs⟩ : ∃ s, s = 8 * k := ⟨_, rfl⟩
          have hs1 : IntKind.i64.wrap (8 * (k : Int)) = (s : Int) := by rw [IntWalk.i64_in _ (by omega)]; omega
          have hs2 : IntKind.u64.wrap (s : Int) = (s : Int) := IntWalk.u64_in _ (by omega)
          have hs3 : (s : Int) ≤ 64 := by omega
          have hs4 : IntKind.u8.wrap ((N : Int) / 2 ^ s) = ((N / 2 ^ s % 256 : Nat) : Int) := by rw [IntKind.wrap_u8, Int.natCast_emod, Int.natCast_ediv, Int.natCast_pow]; rfl
          have hx : N / 2 ^ s % 256 < 256 := Nat.mod_lt _ (by decide)
          have HB := Lib.hid (dz_byte_cell hx)
          have HBE := Lib.hid (show pre ++ [UInt8.ofNat (N / 2 ^ s % 256)] ++ Sh.be8 N k = T by have := HPRE.out; rw [Sh.be8, ← hs] at this; rw [← this]; simp)
          clear hs hx HPRE
          generalize N / 2 ^ s % 256 = x at *
          go_wp2_with (at_builtin; go_must (refine wp_app' _ rfl (.tmp 26) (.tmp 33) 27 27 rfl w.heap.size 5 i0 _ 1 Tryd.underlying27 hi hz0 hz1 hz2 rfl u3 pre.length (bv pre) rfl (hov.alloc _) _ 1 [Value.int .u8 (x : Int)] rfl (new_src Tryd.underlying27 wr [Value.int .u8 (x : Int)] 1 1 5 (0, 0) rfl (by intro u hu; simp at hu; subst hu; rfl)) (by unfold maxLen; omega) (by omega) (by simp; omega) ?_); intro v3 w3 ho3 hb3; rw [← HB.out, ← bv_append] at ho3)
          go_roundw
          case rel => exact ⟨k, _, pre ++ [UInt8.ofNat x], by omega, rfl, by go_num, by rw [List.length_append]; exact ho3, HBE.out, (hbk.alloc hszk _).trans hb3⟩
          case measure => simp [intOf]
end Go.Proofs.YtjgegggcbjecbaaDoor

namespace Go.Proofs.YtjgegggcbjecbaaDoor
open Go Go.RowKit

theorem infoU32 : (Tryd.prog.info? 79).map (fun i => (i.zero, i.size, i.bytes)) = some (some (.int .u32 0), 1, 4) := by kernel_rfl

/-- Words as cells. -/
def uv (l : List Nat) : List Value := l.map fun (x : Nat) => Value.int .u32 (x : Int)
theorem uv_length (l : List Nat) : (uv l).length = l.length := List.length_map _
theorem uv_append (l r : List Nat) : uv (l ++ r) = uv l ++ uv r := List.map_append
theorem uv_one (l : List Nat) : ∀ u ∈ uv l, u.oneCell' = true := by
  intro u hu
  obtain ⟨c, -, rfl⟩ := List.mem_map.1 hu
  rfl

/-- Words in new memory. -/
def GotU (l : List Nat) (w : World) (e : Ending) (w' : World) : Prop :=
  ∃ A c, e = .returned (.slice A l.length c) ∧ (l.length ≤ c ∧ c ≤ 9223372036854775807) ∧ Rd w' w'.heap.size A l.length (uv l) ∧ Below w.heap.size w w'

section
variable {w : World} {B n : Nat} {A : Option Addr}
theorem Rd.wordAt {l : List Nat} {k : Nat} (h : Rd w B A l.length (uv l)) (hk : k < l.length) : ∃ ad, A = some ad ∧ w.cell? (ad.add k) = some (.int .u32 (l.getD k 0 : Int)) := by
  obtain ⟨ad, u, hA, -, hu, hc⟩ := h.spot hk
  refine ⟨ad, hA, ?_⟩
  rw [hc]
  unfold uv at hu
  rw [List.getElem?_map, List.getElem?_eq_getElem hk] at hu
  rw [List.getD_eq_getElem?_getD, List.getElem?_eq_getElem hk]
  exact congrArg some (Option.some.inj hu).symm
theorem Rd.byteOf {l : List UInt8} {k : Nat} (h : Rd w B A l.length (bv l)) (hk : k < l.length) : ∃ ad, A = some ad ∧ w.cell? (ad.add k) = some (.int .u8 (Sh.byteAt l k : Int)) := by
  obtain ⟨ad, u, hA, -, hu, hc⟩ := h.spot hk
  refine ⟨ad, hA, ?_⟩
  rw [hc]
  unfold bv at hu
  rw [List.getElem?_map, List.getElem?_eq_getElem hk] at hu
  unfold Sh.byteAt
  rw [List.getD_eq_getElem?_getD, List.getElem?_eq_getElem hk]
  exact congrArg some (Option.some.inj hu).symm
end

/-- What an owned row looks like that has an element; a word of an owned row. -/
theorem own_some {w : World} {base : Nat} {e : TypeId} {size n : Nat} {v : Value} {xs : List Value} (h : w.ownsRow base e size v n xs) (h0 : 0 < n) :
    ∃ g c, v = .slice (some ⟨g, 0, none⟩) n c := by
  rcases h.2 with ⟨rfl, rfl⟩ | ⟨g, cap, cur, rfl, hb, _, hn, hm, _⟩
  · exact absurd h0 (Nat.lt_irrefl 0)
  · exact ⟨g, cap, rfl⟩
theorem own_word {w : World} {base : Nat} {e : TypeId} {g n c : Nat} {l : List Nat} (h : w.ownsRow base e 1 (.slice (some ⟨g, 0, none⟩) n c) n (uv l)) {j : Nat} (hj : j < n) : w.cell? ⟨g, j, none⟩ = some (.int .u32 (l.getD j 0 : Int)) := by
  have hl : l.length = n := by have := h.1; rwa [uv_length, Nat.mul_one] at this
  rw [h.cellAt j (by omega)]
  unfold uv
  rw [List.getElem?_map, List.getElem?_eq_getElem (by omega), List.getD_eq_getElem?_getD, List.getElem?_eq_getElem (by omega)]
  rfl

theorem uv_at (l : List Nat) {j : Nat} (hj : j < l.length) : (uv l)[j]? = some (.int .u32 (l.getD j 0 : Int)) := by
  unfold uv
  rw [List.getElem?_map, List.getElem?_eq_getElem hj, List.getD_eq_getElem?_getD, List.getElem?_eq_getElem hj]
  rfl
theorem add_nought (g j : Nat) : (⟨g, 0, none⟩ : Addr).add j = ⟨g, j, none⟩ := by
  unfold Addr.add
  split <;> simp [*]

/-- One new cell, behind a draw. -/
theorem new_one {P : Program} {tx e : TypeId} (hk : P.underlying tx = some (.slice e)) (w : World) (u : Value) (t : TypeId) (h1 : u.oneCell' = true) : Src P 1 tx (.slice (some ⟨w.heap.size, 0, none⟩) 1 1) 1 [u] (w.alloc (.cells #[u] t)).drew :=
  (show Rd (w.alloc (.cells #[u] t)) (w.heap.size + 1) (some ⟨w.heap.size, 0, none⟩) 1 [u] from ⟨rfl, fun _ => ⟨_, rfl, Nat.lt_succ_self _, World.news_of_block (heap_alloc_new w _)⟩⟩).drew.src hk 1 (by intro v hv; rw [List.mem_singleton.1 hv]; exact h1)

/-- One word as a cell. -/
theorem uv_cell (x : Nat) : uv [x] = [Value.int .u32 (x : Int)] := rfl

theorem not_nat {e : Nat} (h : e < 4294967296) : 4294967295 ^^^ e = 4294967295 - e := by
  have := congrArg BitVec.toNat (BitVec.allOnes_xor (x := BitVec.ofNat 32 e))
  simpa [BitVec.toNat_xor, BitVec.toNat_allOnes, BitVec.toNat_not, Nat.mod_eq_of_lt h] using this
theorem not_u32 {e : Nat} (h : e < 4294967296) : bits .xor .u32 IntKind.u32.max (e : Int) = ((4294967295 - e : Nat) : Int) := by
  rw [← not_nat h, show IntKind.u32.max = 4294967295 by decide]
  exact u32_xor_nat 4294967295 e (by decide) h

/-- The word of a constant text, where its words are told. -/
theorem word_K (s : ByteArray) (l : List Nat) (n k : Nat) (w : World) (hs : (List.range n).map (fun i => Sh.wordOf 0 ((s.data.toList.drop (8 * i)).take 8)) = l) (hz : s.size = 8 * n) (hn : n ≤ 64) (hk : k < n) :
    Calls Tryd.prog 44 #[.string s, .int .i64 (k : Int)] w fun e w' => e = .returned (.int .u32 (l.getD k 0 : Int)) ∧ w = w' := by
  have h := word_any s k w (by omega) (by omega)
  have e : l.getD k 0 = Sh.wordOf 0 ((s.data.toList.drop (8 * k)).take 8) := by
    subst hs
    rw [List.getD_eq_getElem?_getD, List.getElem?_map, List.getElem?_range hk]
    rfl
  rw [e]
  exact h

theorem add_wrap (a b : Nat) : IntKind.u32.wrap ((a : Int) + (b : Int)) = ((Sh.add a b : Nat) : Int) := by
  rw [IntKind.wrap_u32]; unfold Sh.add; omega
end Go.Proofs.YtjgegggcbjecbaaDoor

namespace Go.Proofs.YtjgegggcbjecbaaDoor
open Go Go.RowKit

theorem turn_eq' {x n : Nat} (hx : x < 4294967296) : bits .or .u32 (IntKind.u32.wrap ((x : Int) * 2 ^ (32 - n))) ((x : Int) / 2 ^ n) = ((Sh.turn x n : Nat) : Int) := by
  have e1 : (x : Int) / 2 ^ n = ((x / 2 ^ n : Nat) : Int) := by push_cast; rfl
  have e2 : IntKind.u32.wrap ((x : Int) * 2 ^ (32 - n)) = ((x * 2 ^ (32 - n) % 4294967296 : Nat) : Int) := by rw [IntKind.wrap_u32, Int.natCast_emod, Int.natCast_mul, Int.natCast_pow]; rfl
  rw [e1, e2, u32_or_nat _ _ (Nat.mod_lt _ (by decide)) (Nat.lt_of_le_of_lt (Nat.div_le_self _ _) hx), Nat.or_comm]
  rfl

theorem neg_u64 {n : Nat} (h0 : 0 < n) (h : n < 32) : IntKind.u64.wrap (-(n : Int)) = ((18446744073709551616 - n : Nat) : Int) := by
  rw [IntKind.wrap_u64]; omega
theorem low5 {n : Nat} (h0 : 0 < n) (h : n < 32) : bits .and .u64 ((18446744073709551616 - n : Nat) : Int) 31 = ((32 - n : Nat) : Int) := by
  rw [show (31 : Int) = ((31 : Nat) : Int) from rfl, u64_and_nat _ _ (by omega) (by decide)]
  rw [show (31 : Nat) = 2 ^ 5 - 1 from rfl, Nat.and_two_pow_sub_one_eq_mod]
  omega

set_option maxRecDepth 100000 in
theorem rot_any (x n : Nat) (w : World) (hx : x < 4294967296) (h0 : 0 < n) (hn : n < 32) :
    Calls Tryd.prog 82 #[.int .u32 (x : Int), .int .i64 (-(n : Int))] w fun e w' => e = .returned (.int .u32 (Sh.turn x n : Int)) ∧ w = w' := by
  have h1 := neg_u64 h0 hn
  have h2 := low5 h0 hn
  have HE := Lib.hid (turn_eq' (n := n) hx)
  obtain ⟨m, hm⟩ : ∃ m, m = 32 - n := ⟨_, rfl⟩
  have h3 : IntKind.u64.wrap (32 - (m : Int)) = (n : Int) := by rw [IntWalk.u64_in _ (by omega)]; omega
  have h4 : (m : Int) ≤ 32 := by omega
  have h5 : (n : Int) ≤ 32 := by omega
  rw [← hm] at h2 HE
  generalize 18446744073709551616 - n = M at *
  obtain ⟨z, hz⟩ : ∃ z : Int, z = -(n : Int) := ⟨_, rfl⟩
  rw [← hz] at h1 ⊢
  clear hm hz
  go_enter Tryd.func82, Tryd.ntmps82
  go_wp2
  go_ret
  exact ⟨by rw [← HE.out]; rfl, rfl⟩

set_option maxRecDepth 100000 in
theorem pturn_any (x n : Nat) (w : World) (hx : x < 4294967296) (h0 : 0 < n) (hn : n < 32) :
    Calls Tryd.prog 76 #[.int .u32 (x : Int), .int .i64 (n : Int)] w fun e w' => e = .returned (.int .u32 (Sh.turn x n : Int)) ∧ w = w' := by
  have R := Lib.hid (rot_any x n w hx h0 hn)
  have h1 : (n : Int) ≤ 32 := by omega
  go_enter Tryd.func76, Tryd.ntmps76
  go_wp2_with fail
  refine R.out.mono ?_; rintro e w' ⟨rfl, rfl⟩
  go_wp2
  go_ret
  exact ⟨rfl, rfl⟩
end Go.Proofs.YtjgegggcbjecbaaDoor

namespace Go.Proofs.YtjgegggcbjecbaaDoor
open Go Go.RowKit


section
variable {w w' : World} {g : Nat} {t : TypeId} {cs : Array Value}
theorem below_setRow {B : Nat} {a w : World} (h : Below B a w) {g : Nat} (hg : B ≤ g) (cs : Array Value) : Below B a (w.setRow g cs) :=
  ⟨h.os, h.tape, h.output, by rw [size_setRow]; exact h.size, fun i hi => (setRow_other w g i cs (by omega)).trans (h.block i hi)⟩
end

theorem dz_bv_at (l : List UInt8) {p : Nat} (h : p < l.length) : (bv l).toArray[p]? = some (.int .u8 (Sh.byteAt l p : Int)) := by
  unfold bv Sh.byteAt
  rw [List.getElem?_toArray, List.getElem?_map, List.getElem?_eq_getElem h, List.getD_eq_getElem?_getD, List.getElem?_eq_getElem h]
  rfl
theorem uv_at' (l : List Nat) {p : Nat} (h : p < l.length) : (uv l).toArray[p]? = some (.int .u32 (l.getD p 0 : Int)) := by
  rw [List.getElem?_toArray]; exact uv_at l h
theorem uv_size (l : List Nat) : (uv l).toArray.size = l.length := by rw [List.size_toArray, uv_length]
theorem dz_bv_size (l : List UInt8) : (bv l).toArray.size = l.length := by rw [List.size_toArray, bv_length]
theorem uv_all (l : List Nat) : (uv l).toArray.all (·.oneCell') = true := Array.all_eq_true_iff_forall_mem.2 (fun v hv => uv_one l v (by simpa using hv))
theorem dz_bv_all (l : List UInt8) : (bv l).toArray.all (·.oneCell') = true := Array.all_eq_true_iff_forall_mem.2 (fun v hv => bv_one l v (by simpa using hv))

/-- Words so far, with noughts behind them, in a row of n. -/
def wz (l : List Nat) (n : Nat) : Array Value := (uv (l ++ List.replicate (n - l.length) 0)).toArray
theorem wz_nil (n : Nat) : wz [] n = (uv (List.replicate n 0)).toArray := rfl
theorem wz_full {l : List Nat} {n : Nat} (h : l.length = n) : wz l n = (uv l).toArray := by unfold wz; rw [h, Nat.sub_self, List.replicate_zero, List.append_nil]
theorem wz_size {l : List Nat} {n : Nat} (h : l.length ≤ n) : (wz l n).size = n := by
  unfold wz; rw [uv_size, List.length_append, List.length_replicate]; omega
theorem wz_at {l : List Nat} {n p : Nat} (h : p < l.length) : (wz l n)[p]? = some (.int .u32 (l.getD p 0 : Int)) := by
  unfold wz
  rw [uv_at' _ (by rw [List.length_append]; omega), List.getD_eq_getElem?_getD, List.getD_eq_getElem?_getD, List.getElem?_append_left h]
theorem wz_in {l : List Nat} {n p : Nat} (hl : l.length ≤ p) (h : p < n) : (wz l n)[p]? = some (.int .u32 0) := by
  unfold wz
  rw [uv_at' _ (by rw [List.length_append, List.length_replicate]; omega), List.getD_eq_getElem?_getD, List.getElem?_append_right hl, List.getElem?_replicate, if_pos (by omega)]
  rfl
theorem wz_set {l : List Nat} {n : Nat} (h : l.length < n) (x : Nat) : (wz l n).setIfInBounds l.length (.int .u32 (x : Int)) = wz (l ++ [x]) n := by
  unfold wz uv
  rw [List.setIfInBounds_toArray, List.length_append, List.length_cons, List.length_nil]
  congr 1
  rw [show n - l.length = (n - (l.length + (0 + 1))) + 1 by omega, List.replicate_succ]
  simp [List.map_append]
end Go.Proofs.YtjgegggcbjecbaaDoor

namespace Go.Proofs.YtjgegggcbjecbaaDoor
open Go Go.RowKit

theorem infoW64 : (Tryd.prog.info? 115).map (·.size) = some 64 := by kernel_rfl

/-- Four bytes one behind the other are their sum. -/
theorem or_word {a b c d : Nat} (ha : a < 256) (hb : b < 256) (hc : c < 256) (hd : d < 256) :
    ((a * 16777216 ||| b * 65536) ||| c * 256) ||| d = Sh.add (Sh.add (Sh.add (a * 16777216) (b * 65536)) (c * 256)) d := by
  have h1 : a * 16777216 ||| b * 65536 = a * 16777216 + b * 65536 := by
    have := Nat.two_pow_add_eq_or_of_lt (i := 24) (b := b * 65536) (by omega) a
    rw [Nat.mul_comm] at this; exact this.symm
  have h2 : (a * 16777216 + b * 65536) ||| c * 256 = a * 16777216 + b * 65536 + c * 256 := by
    have := Nat.two_pow_add_eq_or_of_lt (i := 16) (b := c * 256) (by omega) (a * 256 + b)
    rw [show 2 ^ 16 * (a * 256 + b) = a * 16777216 + b * 65536 by omega] at this; exact this.symm
  have h3 : (a * 16777216 + b * 65536 + c * 256) ||| d = a * 16777216 + b * 65536 + c * 256 + d := by
    have := Nat.two_pow_add_eq_or_of_lt (i := 8) (b := d) (by omega) (a * 65536 + b * 256 + c)
    rw [show 2 ^ 8 * (a * 65536 + b * 256 + c) = a * 16777216 + b * 65536 + c * 256 by omega] at this; exact this.symm
  rw [h1, h2, h3]
  unfold Sh.add
  omega

set_option maxRecDepth 100000 in
set_option maxHeartbeats 4000000 in
theorem words_any (b : List UInt8) (w : World) (hb : b.length = 64) :
    Calls Tryd.prog 75 #[.agg (bv b).toArray] w fun e w' => e = .returned (.agg (uv (Sh.words b 64)).toArray) ∧ Below w.heap.size w w' := by
  go_enter Tryd.func75, Tryd.ntmps75
  go_wp2_with fail
  go_loopw [8] (fun i wr => ∃ k : Nat, k ≤ 16 ∧ i = .int .i64 (k : Int) ∧ Blk wr w.heap.size 96 (bv b).toArray ∧ Blk wr (w.heap.size + 1) 115 (wz [] 64) ∧ Blk wr (w.heap.size + 1 + 1) 115 (wz (Sh.words b k) 64) ∧ Below w.heap.size w wr) (fun i _ => 16 - (intOf i).toNat)
  case atStart =>
    have s1 : (w.alloc (.cells (bv b).toArray 96)).heap.size = w.heap.size + 1 := by simp
    have s2 : ((w.alloc (.cells (bv b).toArray 96)).alloc (.cells (wz [] 64) 115)).heap.size = w.heap.size + 1 + 1 := by simp
    exact ⟨0, Nat.zero_le _, rfl, ((Blk.new w _ _).alloc _).alloc _, s1 ▸ (Blk.new (w.alloc (.cells (bv b).toArray 96)) _ (wz [] 64)).alloc _, s2 ▸ Blk.new ((w.alloc (.cells (bv b).toArray 96)).alloc (.cells (wz [] 64) 115)) _ (wz [] 64), (((Below.refl _ _).alloc (Nat.le_refl _) _).alloc (by simp) _).alloc (by simp; omega) _⟩
  case round =>
    obtain ⟨k, hk, rfl, hgb, hgr, hgw, hbk⟩ := hrel
    by_cases hlt : k < 16
    · have HX := Lib.hid (show Sh.words b (k + 1) = Sh.words b k ++ [Sh.word4 b k] by rw [Sh.words, if_pos hlt])
      unfold Sh.word4 at HX
      obtain ⟨p, hp⟩ : ∃ p, p = 4 * k := ⟨_, rfl⟩
      rw [← hp] at HX
      have hp1 : IntKind.i64.wrap (4 * (k : Int)) = (p : Int) := by rw [IntWalk.i64_in _ (by omega)]; omega
      obtain ⟨p1, e1⟩ : ∃ p1, p1 = p + 1 := ⟨_, rfl⟩
      obtain ⟨p2, e2⟩ : ∃ p2, p2 = p + 2 := ⟨_, rfl⟩
      obtain ⟨p3, e3⟩ : ∃ p3, p3 = p + 3 := ⟨_, rfl⟩
      rw [← e1, ← e2, ← e3] at HX
      have hq0 : (p : Int) < 64 := by omega
      have hq1 : (p1 : Int) < 64 := by omega
      have hq2 : (p2 : Int) < 64 := by omega
      have hq3 : (p3 : Int) < 64 := by omega
      have hr1 : IntKind.i64.wrap ((p : Int) + 1) = (p1 : Int) := by rw [IntWalk.i64_in _ (by omega)]; omega
      have hr2 : IntKind.i64.wrap ((p : Int) + 2) = (p2 : Int) := by rw [IntWalk.i64_in _ (by omega)]; omega
      have hr3 : IntKind.i64.wrap ((p : Int) + 3) = (p3 : Int) := by rw [IntWalk.i64_in _ (by omega)]; omega
      clear hp e1 e2 e3
      have e0 := dz_bv_at b (p := p) (by omega)
      have e1 := dz_bv_at b (p := p1) (by omega)
      have e2 := dz_bv_at b (p := p2) (by omega)
      have e3 := dz_bv_at b (p := p3) (by omega)
      have b0 := Sh.byteAt_lt b p
      have b1 := Sh.byteAt_lt b p1
      have b2 := Sh.byteAt_lt b p2
      have b3 := Sh.byteAt_lt b p3
      generalize Sh.byteAt b p = x0 at *
      generalize Sh.byteAt b p1 = x1 at *
      generalize Sh.byteAt b p2 = x2 at *
      generalize Sh.byteAt b p3 = x3 at *
      have HX2 := HX.out
      rw [← or_word b0 b1 b2 b3] at HX2
      have v0 : IntKind.u32.wrap (x0 : Int) = (x0 : Int) := IntWalk.u32_in _ (by omega)
      have v1 : IntKind.u32.wrap (x1 : Int) = (x1 : Int) := IntWalk.u32_in _ (by omega)
      have v2 : IntKind.u32.wrap (x2 : Int) = (x2 : Int) := IntWalk.u32_in _ (by omega)
      have v3 : IntKind.u32.wrap (x3 : Int) = (x3 : Int) := IntWalk.u32_in _ (by omega)
      obtain ⟨y0, f0⟩ : ∃ y0, y0 = x0 * 16777216 := ⟨_, rfl⟩
      obtain ⟨y1, f1⟩ : ∃ y1, y1 = x1 * 65536 := ⟨_, rfl⟩
      obtain ⟨y2, f2⟩ : ∃ y2, y2 = x2 * 256 := ⟨_, rfl⟩
      rw [← f0, ← f1, ← f2] at HX2
      have v4 : IntKind.u32.wrap ((x0 : Int) * 16777216) = (y0 : Int) := by rw [IntWalk.u32_in _ (by omega)]; omega
      have v5 : IntKind.u32.wrap ((x1 : Int) * 65536) = (y1 : Int) := by rw [IntWalk.u32_in _ (by omega)]; omega
      have v6 : IntKind.u32.wrap ((x2 : Int) * 256) = (y2 : Int) := by rw [IntWalk.u32_in _ (by omega)]; omega
      have g0 : y0 < 4294967296 := by omega
      have g1 : y1 < 4294967296 := by omega
      have g2 : y2 < 4294967296 := by omega
      have g3 : x3 < 4294967296 := by omega
      clear f0 f1 f2 HX
      have v7 := u32_or_nat y0 y1 g0 g1
      have g4 : y0 ||| y1 < 4294967296 := Nat.or_lt_two_pow (n := 32) g0 g1
      generalize y0 ||| y1 = z1 at *
      have v8 := u32_or_nat z1 y2 g4 g2
      have g5 : z1 ||| y2 < 4294967296 := Nat.or_lt_two_pow (n := 32) g4 g2
      generalize z1 ||| y2 = z2 at *
      have v9 := u32_or_nat z2 x3 g5 g3
      generalize z2 ||| x3 = x4 at *
      have HX := Lib.hid HX2
      clear HX2
      have hl := Sh.words_length b k
      have HL := Lib.hid hl
      have hk64 : (k : Int) < 64 := by omega
      have hgbd := hgb.drew
      have hgrd := hgr.drew
      have hgwd := hgw.drew
      have hbkd := hbk.drew
      have c0 := (hgbd.cell p).trans e0
      have c1 := (hgbd.cell p1).trans e1
      have c2 := (hgbd.cell p2).trans e2
      have c3 := (hgbd.cell p3).trans e3
      have cw := (hgwd.cell k).trans (wz_in (p := k) (by omega) (by omega))
      have fw := hgwd.frozen k
      clear e0 e1 e2 e3
      go_wp2_with fail
      refine still_tail 31 (by kernel_rfl) (by kernel_rfl) ?_
      simp only [List.take_succ_cons, List.take_zero, List.drop_succ_cons, List.drop_zero]
      generalize World.drew wr = wd at *
      refine wpStill_step (fun K hK => ?_); go_simp; refine hK _ ?_; clear hK K
      refine wpStill_step (fun K hK => ?_); go_simp; refine hK _ ?_; clear hK K
      refine wpStill_step (fun K hK => ?_); go_simp; refine hK _ ?_; clear hK K
      refine wpStill_step (fun K hK => ?_); go_simp; refine hK _ ?_; clear hK K
      refine wpStill_step (fun K hK => ?_); go_simp; refine hK _ ?_; clear hK K
      refine wpStill_step (fun K hK => ?_); go_simp; refine hK _ ?_; clear hK K
      refine wpStill_step (fun K hK => ?_); go_simp; refine hK _ ?_; clear hK K
      refine wpStill_step (fun K hK => ?_); go_simp; refine hK _ ?_; clear hK K
      refine wpStill_step (fun K hK => ?_); go_simp; refine hK _ ?_; clear hK K
      refine wpStill_step (fun K hK => ?_); go_simp; refine hK _ ?_; clear hK K
      refine wpStill_step (fun K hK => ?_); go_simp; refine hK _ ?_; clear hK K
      refine wpStill_step (fun K hK => ?_); go_simp; refine hK _ ?_; clear hK K
      refine wpStill_step (fun K hK => ?_); go_simp; refine hK _ ?_; clear hK K
      refine wpStill_step (fun K hK => ?_); go_simp; refine hK _ ?_; clear hK K
      refine wpStill_step (fun K hK => ?_); go_simp; refine hK _ ?_; clear hK K
      refine wpStill_step (fun K hK => ?_); go_simp; refine hK _ ?_; clear hK K
      refine wpStill_step (fun K hK => ?_); go_simp; refine hK _ ?_; clear hK K
      refine wpStill_step (fun K hK => ?_); go_simp; refine hK _ ?_; clear hK K
      refine wpStill_step (fun K hK => ?_); go_simp; refine hK _ ?_; clear hK K
      refine wpStill_step (fun K hK => ?_); go_simp; refine hK _ ?_; clear hK K
      refine wpStill_step (fun K hK => ?_); go_simp; refine hK _ ?_; clear hK K
      refine wpStill_step (fun K hK => ?_); go_simp; refine hK _ ?_; clear hK K
      refine wpStill_step (fun K hK => ?_); go_simp; refine hK _ ?_; clear hK K
      refine wpStill_step (fun K hK => ?_); go_simp; refine hK _ ?_; clear hK K
      refine wpStill_step (fun K hK => ?_); go_simp; refine hK _ ?_; clear hK K
      refine wpStill_step (fun K hK => ?_); go_simp; refine hK _ ?_; clear hK K
      refine wpStill_step (fun K hK => ?_); go_simp; refine hK _ ?_; clear hK K
      refine wpStill_step (fun K hK => ?_); go_simp; refine hK _ ?_; clear hK K
      refine wpStill_step (fun K hK => ?_); go_simp; refine hK _ ?_; clear hK K
      refine wpStill_step (fun K hK => ?_); go_simp; refine hK _ ?_; clear hK K
      refine wpStill_step (fun K hK => ?_); go_simp; refine hK _ ?_; clear hK K
      refine wpStill_nil ?_
      go_wp2_with fail
      go_roundw
      case rel => exact ⟨k + 1, by omega, by go_num, hgbd.far (by simp; omega) _, hgrd.far (by simp) _, by rw [HX.out, ← wz_set (by rw [HL.out]; omega), HL.out]; exact hgwd.set_ k _, hbkd.setCell (by simp; omega) _⟩
      case measure => simp [intOf]; omega
    · obtain rfl : k = 16 := by omega
      clear hk hlt
      rw [show ((16 : Nat) : Int) = 16 from rfl]
      go_wp2_with fail
      go_loopw [5] (fun i wr => ∃ k : Nat, 16 ≤ k ∧ k ≤ 64 ∧ i = .int .i64 (k : Int) ∧ Blk wr (w.heap.size + 1) 115 (wz [] 64) ∧ Blk wr (w.heap.size + 1 + 1) 115 (wz (Sh.words b k) 64) ∧ Below w.heap.size w wr) (fun i _ => 64 - (intOf i).toNat)
      case atStart => exact ⟨16, Nat.le_refl _, by omega, rfl, hgr, hgw, hbk⟩
      case round =>
        obtain ⟨k, hk0, hk, rfl, hgr, hgw, hbk⟩ := hrel
        by_cases hlt : k < 64
        · have HX := Lib.hid (show Sh.words b (k + 1) = Sh.words b k ++ [Sh.next (Sh.words b k) k] by rw [Sh.words, if_neg (by omega)])
          unfold Sh.next at HX
          have hws := Sh.words_ws b k
          have hwl := Sh.words_length b k
          have HL := Lib.hid hwl
          obtain ⟨j1, e1⟩ : ∃ j, j = k - 15 := ⟨_, rfl⟩
          obtain ⟨j2, e2⟩ : ∃ j, j = k - 2 := ⟨_, rfl⟩
          obtain ⟨j3, e3⟩ : ∃ j, j = k - 16 := ⟨_, rfl⟩
          obtain ⟨j4, e4⟩ : ∃ j, j = k - 7 := ⟨_, rfl⟩
          rw [← e1, ← e2, ← e3, ← e4] at HX
          have r1 : IntKind.i64.wrap ((k : Int) - 15) = (j1 : Int) := by rw [IntWalk.i64_in _ (by omega)]; omega
          have r2 : IntKind.i64.wrap ((k : Int) - 2) = (j2 : Int) := by rw [IntWalk.i64_in _ (by omega)]; omega
          have r3 : IntKind.i64.wrap ((k : Int) - 16) = (j3 : Int) := by rw [IntWalk.i64_in _ (by omega)]; omega
          have r4 : IntKind.i64.wrap ((k : Int) - 7) = (j4 : Int) := by rw [IntWalk.i64_in _ (by omega)]; omega
          have l1 : (j1 : Int) < 64 := by omega
          have l2 : (j2 : Int) < 64 := by omega
          have l3 : (j3 : Int) < 64 := by omega
          have l4 : (j4 : Int) < 64 := by omega
          have l5 : (k : Int) < 64 := by omega
          have c1 := (hgw.cell j1).trans (wz_at (p := j1) (by omega))
          have c2 := (hgw.cell j2).trans (wz_at (p := j2) (by omega))
          have c3 := (hgw.cell j3).trans (wz_at (p := j3) (by omega))
          have c4 := (hgw.cell j4).trans (wz_at (p := j4) (by omega))
          have b1 := hws.at j1
          have b2 := hws.at j2
          have b3 := hws.at j3
          have b4 := hws.at j4
          generalize (Sh.words b k).getD j1 0 = x1 at *
          generalize (Sh.words b k).getD j2 0 = x2 at *
          generalize (Sh.words b k).getD j3 0 = x3 at *
          generalize (Sh.words b k).getD j4 0 = x4 at *
          have T1 := Lib.hid (fun w : World => pturn_any x1 7 w b1 (by decide) (by decide))
          have T2 := Lib.hid (fun w : World => pturn_any x1 18 w b1 (by decide) (by decide))
          have m1 := Sh.turn_lt 7 b1
          have m2 := Sh.turn_lt 18 b1
          unfold Sh.mixX at HX
          generalize Sh.turn x1 7 = t1 at *
          generalize Sh.turn x1 18 = t2 at *
          have q1 := u32_xor_nat t1 t2 m1 m2
          have m3 := Sh.xor_lt m1 m2
          generalize t1 ^^^ t2 = t3 at *
          have q2 : bits .xor .u32 (t3 : Int) ((x1 : Int) / 8) = ((t3 ^^^ x1 / 8 : Nat) : Int) := by rw [show (x1 : Int) / 8 = ((x1 / 8 : Nat) : Int) by omega]; exact u32_xor_nat _ _ m3 (by omega)
          have m4 : t3 ^^^ x1 / 8 < 4294967296 := Sh.xor_lt m3 (by omega)
          generalize t3 ^^^ x1 / 8 = X1 at *
          have T3 := Lib.hid (fun w : World => pturn_any x2 17 w b2 (by decide) (by decide))
          have T4 := Lib.hid (fun w : World => pturn_any x2 19 w b2 (by decide) (by decide))
          have m5 := Sh.turn_lt 17 b2
          have m6 := Sh.turn_lt 19 b2
          unfold Sh.mixY at HX
          generalize Sh.turn x2 17 = t5 at *
          generalize Sh.turn x2 19 = t6 at *
          have q3 := u32_xor_nat t5 t6 m5 m6
          have m7 := Sh.xor_lt m5 m6
          generalize t5 ^^^ t6 = t7 at *
          have q4 : bits .xor .u32 (t7 : Int) ((x2 : Int) / 1024) = ((t7 ^^^ x2 / 1024 : Nat) : Int) := by rw [show (x2 : Int) / 1024 = ((x2 / 1024 : Nat) : Int) by omega]; exact u32_xor_nat _ _ m7 (by omega)
          generalize t7 ^^^ x2 / 1024 = X2 at *
          have v1 := add_wrap x3 X1
          generalize Sh.add x3 X1 = z1 at *
          have v2 := add_wrap z1 x4
          generalize Sh.add z1 x4 = z2 at *
          have v3 := add_wrap z2 X2
          generalize Sh.add z2 X2 = z3 at *
          clear e1 e2 e3 e4
          go_wp2_with fail
          have c1d := (World.cell?_drew wr _).trans c1
          have c2d := (World.cell?_drew wr _).trans c2
          have hgrd := hgr.drew
          have hgwd := hgw.drew
          have hbkd := hbk.drew
          have c3d := (World.cell?_drew wr _).trans c3
          have c4d := (World.cell?_drew wr _).trans c4
          have cwd := (hgwd.cell k).trans (wz_in (p := k) (by omega) (by omega))
          have fwd := hgwd.frozen k
          clear c1 c2 c3 c4
          refine still_all (by kernel_rfl) (by kernel_rfl) ?_
          generalize World.drew wr = wd at *
          refine wpStill_step (fun K hK => ?_); go_simp; refine hK _ ?_; clear hK K
          refine wpStill_step (fun K hK => ?_); go_simp; refine hK _ ?_; clear hK K
          refine wpStill_step (fun K hK => ?_); go_simp; refine hK _ ?_; clear hK K
          refine wpStill_step (fun K hK => ?_); go_simp; refine hK _ ?_; clear hK K
          refine wpStill_step (fun K hK => ?_); go_simp; refine hK _ ?_; clear hK K
          refine wpStill_step (fun K hK => ?_); go_simp; refine hK _ ?_; clear hK K
          refine wpStill_step (fun K hK => ?_); go_simp; refine hK _ ?_; clear hK K
          refine wpStill_step (fun K hK => ?_); go_simp; refine hK _ ?_; clear hK K
          refine wpStill_step (fun K hK => ?_); go_simp; refine hK _ ?_; clear hK K
          refine wpStill_step (fun K hK => ?_); go_simp; refine hK _ ?_; clear hK K
          refine wpStill_nil ?_
          have T1' := T1.out wd.drew
          have T2' := T2.out wd.drew
          have T3' := T3.out wd.drew
          have T4' := T4.out wd.drew
          have S1 := Lib.hid T1'
          have S2 := Lib.hid T2'
          have S3 := Lib.hid T3'
          have S4 := Lib.hid T4'
          clear T1' T2' T3' T4'
          have c3e := (World.cell?_drew wd _).trans c3d
          have c4e := (World.cell?_drew wd _).trans c4d
          have hgre := hgrd.drew
          have hgwe := hgwd.drew
          have hbke := hbkd.drew
          have cwe := (World.cell?_drew wd _).trans cwd
          have fwe := (World.frozen?_drew wd _).trans fwd
          clear c1d c2d c3d c4d hgrd hgwd hbkd hgr hgw hbk cwd fwd
          go_wp2_with fail
          refine still_tail 29 (by kernel_rfl) (by kernel_rfl) ?_
          simp only [List.take_succ_cons, List.take_zero, List.drop_succ_cons, List.drop_zero]
          generalize World.drew wd = we at *
          refine wpStill_step (fun K hK => ?_); go_simp; refine hK _ ?_; clear hK K
          refine wpStill_step (fun K hK => ?_); go_simp; refine hK _ ?_; clear hK K
          refine wpStill_step (fun K hK => ?_); go_simp; refine hK _ ?_; clear hK K
          refine wpStill_step (fun K hK => ?_); go_simp; refine hK _ ?_; clear hK K
          refine wpStill_step (fun K hK => ?_); go_simp; refine hK _ ?_; clear hK K
          refine wpStill_step (fun K hK => ?_); go_simp; refine hK _ ?_; clear hK K
          refine wpStill_step (fun K hK => ?_); go_simp; refine ⟨_, still_same S1.out, hK _ ?_⟩; clear hK K
          refine wpStill_step (fun K hK => ?_); go_simp; refine hK _ ?_; clear hK K
          refine wpStill_step (fun K hK => ?_); go_simp; refine ⟨_, still_same S2.out, hK _ ?_⟩; clear hK K
          refine wpStill_step (fun K hK => ?_); go_simp; refine hK _ ?_; clear hK K
          refine wpStill_step (fun K hK => ?_); go_simp; refine hK _ ?_; clear hK K
          refine wpStill_step (fun K hK => ?_); go_simp; refine hK _ ?_; clear hK K
          refine wpStill_step (fun K hK => ?_); go_simp; refine hK _ ?_; clear hK K
          refine wpStill_step (fun K hK => ?_); go_simp; refine hK _ ?_; clear hK K
          refine wpStill_step (fun K hK => ?_); go_simp; refine hK _ ?_; clear hK K
          refine wpStill_step (fun K hK => ?_); go_simp; refine hK _ ?_; clear hK K
          refine wpStill_step (fun K hK => ?_); go_simp; refine hK _ ?_; clear hK K
          refine wpStill_step (fun K hK => ?_); go_simp; refine hK _ ?_; clear hK K
          refine wpStill_step (fun K hK => ?_); go_simp; refine hK _ ?_; clear hK K
          refine wpStill_step (fun K hK => ?_); go_simp; refine hK _ ?_; clear hK K
          refine wpStill_step (fun K hK => ?_); go_simp; refine ⟨_, still_same S3.out, hK _ ?_⟩; clear hK K
          refine wpStill_step (fun K hK => ?_); go_simp; refine hK _ ?_; clear hK K
          refine wpStill_step (fun K hK => ?_); go_simp; refine ⟨_, still_same S4.out, hK _ ?_⟩; clear hK K
          refine wpStill_step (fun K hK => ?_); go_simp; refine hK _ ?_; clear hK K
          refine wpStill_step (fun K hK => ?_); go_simp; refine hK _ ?_; clear hK K
          refine wpStill_step (fun K hK => ?_); go_simp; refine hK _ ?_; clear hK K
          refine wpStill_step (fun K hK => ?_); go_simp; refine hK _ ?_; clear hK K
          refine wpStill_step (fun K hK => ?_); go_simp; refine hK _ ?_; clear hK K
          refine wpStill_step (fun K hK => ?_); go_simp; refine hK _ ?_; clear hK K
          refine wpStill_nil ?_
          go_wp2_with fail
          go_roundw
          case rel => exact ⟨k + 1, by omega, by omega, by go_num, hgre.far (by simp) _, by rw [HX.out, ← wz_set (by rw [HL.out]; omega), HL.out]; exact hgwe.set_ k _, hbke.setCell (by simp; omega) _⟩
          case measure => simp [intOf]; omega
        · obtain rfl : k = 64 := by omega
          clear hk hk0 hlt
          rw [show ((64 : Nat) : Int) = 64 from rfl]
          have hwl := Sh.words_length b 64
          rw [wz_full hwl] at hgw
          obtain ⟨W, hW⟩ : ∃ W, W = Sh.words b 64 := ⟨_, rfl⟩
          rw [← hW] at hgw hwl
          have HW := Lib.hid hW
          have hs : (uv W).toArray.size = 64 := by rw [uv_size]; exact hwl
          have HS := Lib.hid hs
          have hal := uv_all W
          have HA := Lib.hid hal
          have hz : (wz [] 64).size = 64 := wz_size (by decide)
          have HZ := Lib.hid hz
          clear hs hal hz hwl hW
          obtain ⟨C, hC⟩ : ∃ C, C = (uv W).toArray := ⟨_, rfl⟩
          rw [← hC] at hgw HS HA
          have HC := Lib.hid hC
          clear hC
          generalize wz [] 64 = Z at *
          go_wp2_with (first
            | (refine wpList_load_row rfl 115 (.tmp 3) rfl _ rfl _ C _ _ hgw Tryd.underlying115 rfl (by rw [HS.out]; exact infoW64) ?_)
            | (refine wpList_store_row rfl 115 (.tmp 2) (.tmp 84) rfl _ C rfl rfl _ Z hgr (by rw [HS.out]; exact infoW64) (by rw [HS.out, HZ.out]) HA.out ?_))
          exact bodyPost_ret (v := .agg C) (results_cell_row rfl _ _ (w.heap.size + 1) _ C _ _ rfl (hgr.row C) Tryd.underlying115 rfl (by rw [HS.out]; exact infoW64)) rfl ⟨by rw [HC.out, HW.out], below_setRow hbk (by omega) _⟩
end Go.Proofs.YtjgegggcbjecbaaDoor

namespace Go.Proofs.YtjgegggcbjecbaaDoor
open Go Go.RowKit

theorem infoS8 : (Tryd.prog.info? 93).map (·.size) = some 8 := by kernel_rfl
theorem infoB64 : (Tryd.prog.info? 96).map (·.size) = some 64 := by kernel_rfl

/-- The table of the rounds' constants lies where the program's text lays it. -/
def KT (w : World) : Prop := ∀ i, i < 64 → w.cell? ⟨0, i, none⟩ = some (.int .u32 (Sh.K.getD i 0 : Int))
theorem KT.lt {w : World} (h : KT w) : 0 < w.heap.size := World.block_lt_of_cell? _ _ (h 0 (by decide))
theorem KT.below {w w' : World} {B : Nat} (h : KT w) (hb : Below B w w') (hB : 0 < B) : KT w' := fun i hi => (hb.cell (p := ⟨0, i, none⟩) hB).trans (h i hi)
theorem KT.later {w w' : World} (h : KT w) (hb : Below w.heap.size w w') : KT w' := h.below hb h.lt
theorem KT.drew {w : World} (h : KT w) : KT w.drew := h

theorem list8 {l : List Nat} (h : l.length = 8) : l = [l.getD 0 0, l.getD 1 0, l.getD 2 0, l.getD 3 0, l.getD 4 0, l.getD 5 0, l.getD 6 0, l.getD 7 0] := by
  match l, h with
  | [_, _, _, _, _, _, _, _], _ => rfl

set_option maxRecDepth 100000 in
set_option maxHeartbeats 8000000 in
theorem next_any (s : List Nat) (b : List UInt8) (w : World) (hs : s.length = 8) (hws : Sh.Ws s) (hb : b.length = 64) (hk : KT w) :
    Calls Tryd.prog 58 #[.agg (uv s).toArray, .agg (bv b).toArray] w fun e w' => e = .returned (.agg (uv (Sh.mix s b)).toArray) ∧ Below w.heap.size w w' := by
  have h8 := uv_size s
  rw [hs] at h8
  have H8 := Lib.hid h8
  have h64 := dz_bv_size b
  rw [hb] at h64
  have H64 := Lib.hid h64
  have HW0 := Lib.hid (fun W : World => words_any b W hb)
  have HKT := Lib.hid hk
  have hglt := hk.lt
  have hat := fun (p : Nat) (h : p < s.length) => uv_at' s h
  rw [hs] at hat
  have a0 := hat 0 (by decide)
  have a1 := hat 1 (by decide)
  have a2 := hat 2 (by decide)
  have a3 := hat 3 (by decide)
  have a4 := hat 4 (by decide)
  have a5 := hat 5 (by decide)
  have a6 := hat 6 (by decide)
  have a7 := hat 7 (by decide)
  have hww := Sh.words_ws b 64
  have hwl := Sh.words_length b 64
  obtain ⟨W, hW⟩ : ∃ W, W = Sh.words b 64 := ⟨_, rfl⟩
  rw [← hW] at HW0 hww hwl
  have hok := Sh.St.of_ok hws
  have hMIX : Sh.mix s b = (Sh.St.of s).onto (Sh.rounds W (Sh.St.of s) 64) := by rw [hW]; rfl
  obtain ⟨S0, hS0⟩ : ∃ S0, S0 = Sh.St.of s := ⟨_, rfl⟩
  rw [← hS0] at hMIX hok
  rw [show s.getD 0 0 = S0.a by rw [hS0]; rfl] at a0
  rw [show s.getD 1 0 = S0.b by rw [hS0]; rfl] at a1
  rw [show s.getD 2 0 = S0.c by rw [hS0]; rfl] at a2
  rw [show s.getD 3 0 = S0.d by rw [hS0]; rfl] at a3
  rw [show s.getD 4 0 = S0.e by rw [hS0]; rfl] at a4
  rw [show s.getD 5 0 = S0.f by rw [hS0]; rfl] at a5
  rw [show s.getD 6 0 = S0.g by rw [hS0]; rfl] at a6
  rw [show s.getD 7 0 = S0.h by rw [hS0]; rfl] at a7
  have HMIX := Lib.hid hMIX
  have HS := Lib.hid (fun (w' : World) (B : Nat) (h : Blk w' B 93 (uv s).toArray) => And.intro ((h.cell 0).trans a0) (And.intro ((h.cell 1).trans a1) (And.intro ((h.cell 2).trans a2) (And.intro ((h.cell 3).trans a3) (And.intro ((h.cell 4).trans a4) (And.intro ((h.cell 5).trans a5) (And.intro ((h.cell 6).trans a6) ((h.cell 7).trans a7))))))))
  have hW64 := uv_size W
  rw [hwl] at hW64
  have HW64 := Lib.hid hW64
  have HWA := Lib.hid (uv_all W)
  have HWL := Lib.hid hwl
  clear hs hb hat a0 a1 a2 a3 a4 a5 a6 a7 hMIX hS0 hW hwl hW64 h8 h64 hk
  obtain ⟨C, hC⟩ : ∃ C, C = (bv b).toArray := ⟨_, rfl⟩
  obtain ⟨S, hS⟩ : ∃ S, S = (uv s).toArray := ⟨_, rfl⟩
  rw [← hC] at HW0 H64 ⊢
  rw [← hS] at HS H8 ⊢
  clear hC hS
  go_enter Tryd.func58, Tryd.ntmps58
  have s1 : (w.alloc (.cells S 93)).heap.size = w.heap.size + 1 := by simp
  have hS0 : Blk ((w.alloc (.cells S 93)).alloc (.cells C 96)) w.heap.size 93 S := (Blk.new w _ _).alloc _
  have hB0 : Blk ((w.alloc (.cells S 93)).alloc (.cells C 96)) (w.heap.size + 1) 96 C := s1 ▸ Blk.new (w.alloc (.cells S 93)) 96 C
  have hW1 : Below w.heap.size w ((w.alloc (.cells S 93)).alloc (.cells C 96)) := ((Below.refl _ _).alloc (Nat.le_refl _) _).alloc (by simp) _
  have hsz1 : ((w.alloc (.cells S 93)).alloc (.cells C 96)).heap.size = w.heap.size + 1 + 1 := by simp
  have HSZ := Lib.hid hsz1
  clear s1 hsz1
  go_wp2_with (first
    | (refine wpList_load_row rfl 96 (.tmp 3) rfl _ rfl _ C _ _ (hB0.alloc _) Tryd.underlying96 rfl (by rw [H64.out]; exact infoB64) ?_
       generalize hwa : World.alloc (World.alloc (World.alloc w _) _) _ = wa
       have hSa : Blk wa w.heap.size 93 S := by rw [← hwa]; exact hS0.alloc _
       have hRa : ∃ Z, Blk wa (w.heap.size + 1 + 1) 93 Z ∧ Z.size = 8 := by rw [← hwa]; exact ⟨_, HSZ.out ▸ Blk.new _ _ _, rfl⟩
       have hba : Below w.heap.size w wa := by rw [← hwa]; exact hW1.alloc hW1.size _
       clear hwa)
    | (go_at_call 75; refine (HW0.out _).mono ?_; rintro e w1 ⟨rfl, hb1⟩
       have hb2 := hba.trans (hb1.mono hba.size)
       have hSb := hSa.later hb1)
    | (refine wpList_store_row rfl 115 (.tmp 5) (.tmp 18) rfl _ (uv W).toArray rfl rfl _ _ (Blk.new _ _ _) (by rw [HW64.out]; exact infoW64) (by rw [HW64.out]; rfl) HWA.out ?_
       generalize hwc : World.setRow _ _ _ = wc))
  have hltS := hSb.lt
  obtain ⟨Z, hZa, hZ8⟩ := hRa
  have HZ8 := Lib.hid hZ8
  have hZb := hZa.later hb1
  have hltZ := hZb.lt
  have hWc : Blk wc w1.heap.size 115 (uv W).toArray := by rw [← hwc]; exact (Blk.new w1 _ _).row _
  have hSc : Blk wc w.heap.size 93 S := by rw [← hwc]; exact (hSb.alloc _).farRow (by omega) _
  have hZc : Blk wc (w.heap.size + 1 + 1) 93 Z := by rw [← hwc]; exact (hZb.alloc _).farRow (by omega) _
  have hbc : Below w.heap.size w wc := by rw [← hwc]; exact below_setRow (hb2.alloc hb2.size _) hb2.size _
  have hKc := HKT.out.below hbc hglt
  clear hwc hSa hba hb1 hSb hZa hZ8 hZb hS0 hB0 hW1
  have HKc := Lib.hid hKc.drew
  clear hKc
  have hWc := hWc.drew
  have hSc := hSc.drew
  have hZc := hZc.drew
  have hbc := hbc.drew
  obtain ⟨k0, k1, k2, k3, k4, k5, k6, k7⟩ := HS.out _ _ hSc
  refine still_all (by kernel_rfl) (by kernel_rfl) ?_
  generalize World.drew wc = wd at *
  refine wpStill_step (fun K hK => ?_); go_simp; refine hK _ ?_; clear hK K
  refine wpStill_step (fun K hK => ?_); go_simp; refine hK _ ?_; clear hK K
  refine wpStill_step (fun K hK => ?_); go_simp; refine hK _ ?_; clear hK K
  refine wpStill_step (fun K hK => ?_); go_simp; refine hK _ ?_; clear hK K
  refine wpStill_step (fun K hK => ?_); go_simp; refine hK _ ?_; clear hK K
  refine wpStill_step (fun K hK => ?_); go_simp; refine hK _ ?_; clear hK K
  refine wpStill_step (fun K hK => ?_); go_simp; refine hK _ ?_; clear hK K
  refine wpStill_step (fun K hK => ?_); go_simp; refine hK _ ?_; clear hK K
  refine wpStill_step (fun K hK => ?_); go_simp; refine hK _ ?_; clear hK K
  refine wpStill_step (fun K hK => ?_); go_simp; refine hK _ ?_; clear hK K
  refine wpStill_step (fun K hK => ?_); go_simp; refine hK _ ?_; clear hK K
  refine wpStill_step (fun K hK => ?_); go_simp; refine hK _ ?_; clear hK K
  refine wpStill_step (fun K hK => ?_); go_simp; refine hK _ ?_; clear hK K
  refine wpStill_step (fun K hK => ?_); go_simp; refine hK _ ?_; clear hK K
  refine wpStill_step (fun K hK => ?_); go_simp; refine hK _ ?_; clear hK K
  refine wpStill_step (fun K hK => ?_); go_simp; refine hK _ ?_; clear hK K
  refine wpStill_step (fun K hK => ?_); go_simp; refine hK _ ?_; clear hK K
  refine wpStill_step (fun K hK => ?_); go_simp; refine hK _ ?_; clear hK K
  refine wpStill_step (fun K hK => ?_); go_simp; refine hK _ ?_; clear hK K
  refine wpStill_step (fun K hK => ?_); go_simp; refine hK _ ?_; clear hK K
  refine wpStill_step (fun K hK => ?_); go_simp; refine hK _ ?_; clear hK K
  refine wpStill_step (fun K hK => ?_); go_simp; refine hK _ ?_; clear hK K
  refine wpStill_step (fun K hK => ?_); go_simp; refine hK _ ?_; clear hK K
  refine wpStill_step (fun K hK => ?_); go_simp; refine hK _ ?_; clear hK K
  refine wpStill_nil ?_
  obtain ⟨g, hg⟩ : ∃ g, g = w1.heap.size := ⟨_, rfl⟩
  rw [← hg]
  rw [← hg] at hWc hltS hltZ
  have hgb : w.heap.size ≤ g := by omega
  clear hg hb2 k0 k1 k2 k3 k4 k5 k6 k7
  go_wp2_with fail
  go_loopw [6, 7, 8, 9, 10, 11, 12, 13, 35] (fun va vb vc vd ve vf vg vh i wr => ∃ (k a b1 c1 d e f g1 h : Nat), k ≤ 64 ∧ Sh.rounds W S0 k = ⟨a, b1, c1, d, e, f, g1, h⟩ ∧ va = .int .u32 (a : Int) ∧ vb = .int .u32 (b1 : Int) ∧ vc = .int .u32 (c1 : Int) ∧ vd = .int .u32 (d : Int) ∧ ve = .int .u32 (e : Int) ∧ vf = .int .u32 (f : Int) ∧ vg = .int .u32 (g1 : Int) ∧ vh = .int .u32 (h : Int) ∧ i = .int .i64 (k : Int) ∧ Blk wr g 115 (uv W).toArray ∧ Blk wr w.heap.size 93 S ∧ Blk wr (w.heap.size + 1 + 1) 93 Z ∧ Hid (KT wr) ∧ Below w.heap.size w wr) (fun _ _ _ _ _ _ _ _ i _ => 64 - (intOf i).toNat)
  case atStart => exact ⟨0, S0.a, S0.b, S0.c, S0.d, S0.e, S0.f, S0.g, S0.h, Nat.zero_le _, rfl, rfl, rfl, rfl, rfl, rfl, rfl, rfl, rfl, rfl, hWc, hSc, hZc, HKc, hbc⟩
  case round =>
    obtain ⟨k, a, b1, c1, d, e, f, g1, h, hk, hst, rfl, rfl, rfl, rfl, rfl, rfl, rfl, rfl, rfl, hWr, hSr, hZr, HKr, hbr⟩ := hrel
    have hso := Sh.rounds_ok W hok k
    rw [hst] at hso
    obtain ⟨ha, hbb, hcc, hd, he, hf, hg, hh⟩ := hso
    simp only [] at ha hbb hcc hd he hf hg hh
    by_cases hlt : k < 64
    · have HX := Lib.hid (show Sh.rounds W S0 (k + 1) = Sh.St.step ⟨a, b1, c1, d, e, f, g1, h⟩ (Sh.K.getD k 0) (W.getD k 0) by rw [Sh.rounds, hst])
      unfold Sh.St.step Sh.St.t Sh.St.u Sh.sumE Sh.sumA Sh.chs Sh.maj at HX
      simp only [] at HX
      have T1 := Lib.hid (pturn_any e 6 wr.drew he (by decide) (by decide))
      have T2 := Lib.hid (pturn_any e 11 wr.drew he (by decide) (by decide))
      have T3 := Lib.hid (pturn_any e 25 wr.drew he (by decide) (by decide))
      have T4 := Lib.hid (fun w : World => pturn_any a 2 w ha (by decide) (by decide))
      have T5 := Lib.hid (fun w : World => pturn_any a 13 w ha (by decide) (by decide))
      have T6 := Lib.hid (fun w : World => pturn_any a 22 w ha (by decide) (by decide))
      have o1 := Sh.turn_lt 2 ha
      have o2 := Sh.turn_lt 13 ha
      have o3 := Sh.turn_lt 22 ha
      have hWr := hWr.drew
      have hSr := hSr.drew
      have hZr := hZr.drew
      have hbr := hbr.drew
      have cw := (hWr.cell k).trans (uv_at' W (p := k) (by rw [HWL.out]; exact hlt))
      have HKr := Lib.hid HKr.out.drew
      have ck := HKr.out k hlt
      have bw := hww.at k
      have hk64 : (k : Int) < 64 := by omega
      generalize W.getD k 0 = wk at *
      have m1 := Sh.turn_lt 6 he
      have m2 := Sh.turn_lt 11 he
      have m3 := Sh.turn_lt 25 he
      generalize Sh.turn e 6 = u1 at *
      generalize Sh.turn e 11 = u2 at *
      generalize Sh.turn e 25 = u3 at *
      have q1 := u32_xor_nat u1 u2 m1 m2
      have m4 := Sh.xor_lt m1 m2
      generalize u1 ^^^ u2 = u4 at *
      have q2 := u32_xor_nat u4 u3 m4 m3
      generalize u4 ^^^ u3 = u5 at *
      have v1 := add_wrap h u5
      have En1 := Lib.hid (show Sh.add h u5 = (h + u5) % 4294967296 from rfl)
      generalize Sh.add h u5 = n1 at *
      have q3 := u32_and_nat e f he hf
      have m5 : e &&& f < 4294967296 := Sh.and_lt hf
      generalize e &&& f = p1 at *
      have q4 := not_u32 he
      have m6 : 4294967295 - e < 4294967296 := by omega
      generalize 4294967295 - e = p2 at *
      have q5 := u32_and_nat p2 g1 m6 hg
      have m7 : p2 &&& g1 < 4294967296 := Sh.and_lt hg
      generalize p2 &&& g1 = p3 at *
      have q6 := u32_xor_nat p1 p3 m5 m7
      generalize p1 ^^^ p3 = p4 at *
      have v2 := add_wrap n1 p4
      have En2 := Lib.hid (show Sh.add n1 p4 = (n1 + p4) % 4294967296 from rfl)
      generalize Sh.add n1 p4 = n2 at *
      have v3 := add_wrap n2 (Sh.K.getD k 0)
      generalize Sh.K.getD k 0 = kk at *
      have En3 := Lib.hid (show Sh.add n2 kk = (n2 + kk) % 4294967296 from rfl)
      generalize Sh.add n2 kk = n3 at *
      have v4 := add_wrap n3 wk
      have En4 := Lib.hid (show Sh.add n3 wk = (n3 + wk) % 4294967296 from rfl)
      generalize Sh.add n3 wk = n4 at *
      generalize Sh.turn a 2 = t1 at *
      generalize Sh.turn a 13 = t2 at *
      generalize Sh.turn a 22 = t3 at *
      have x1 := u32_xor_nat t1 t2 o1 o2
      have o4 := Sh.xor_lt o1 o2
      generalize t1 ^^^ t2 = t4 at *
      have x2 := u32_xor_nat t4 t3 o4 o3
      generalize t4 ^^^ t3 = t5 at *
      have x3 := u32_and_nat a b1 ha hbb
      have o5 : a &&& b1 < 4294967296 := Sh.and_lt hbb
      generalize a &&& b1 = t6 at *
      have x4 := u32_and_nat a c1 ha hcc
      have o6 : a &&& c1 < 4294967296 := Sh.and_lt hcc
      generalize a &&& c1 = t7 at *
      have x5 := u32_xor_nat t6 t7 o5 o6
      have o7 := Sh.xor_lt o5 o6
      generalize t6 ^^^ t7 = t8 at *
      have x6 := u32_and_nat b1 c1 hbb hcc
      have o8 : b1 &&& c1 < 4294967296 := Sh.and_lt hcc
      generalize b1 &&& c1 = t9 at *
      have x7 := u32_xor_nat t8 t9 o7 o8
      generalize t8 ^^^ t9 = t10 at *
      have x8 := add_wrap t5 t10
      have Et11 := Lib.hid (show Sh.add t5 t10 = (t5 + t10) % 4294967296 from rfl)
      generalize Sh.add t5 t10 = t11 at *
      have x9 := add_wrap d n4
      have Ed2 := Lib.hid (show Sh.add d n4 = (d + n4) % 4294967296 from rfl)
      generalize Sh.add d n4 = d2 at *
      have x10 := add_wrap n4 t11
      have Ea2 := Lib.hid (show Sh.add n4 t11 = (n4 + t11) % 4294967296 from rfl)
      generalize Sh.add n4 t11 = a2 at *
      clear hst
      go_wp2_with fail
      refine still_all (by kernel_rfl) (by kernel_rfl) ?_
      generalize World.drew wr = wd at *
      refine wpStill_step (fun K hK => ?_); go_simp; refine hK _ ?_; clear hK K
      refine wpStill_step (fun K hK => ?_); go_simp; refine hK _ ?_; clear hK K
      refine wpStill_step (fun K hK => ?_); go_simp; refine ⟨_, still_same T1.out, hK _ ?_⟩; clear hK K
      refine wpStill_step (fun K hK => ?_); go_simp; refine hK _ ?_; clear hK K
      refine wpStill_step (fun K hK => ?_); go_simp; refine ⟨_, still_same T2.out, hK _ ?_⟩; clear hK K
      refine wpStill_step (fun K hK => ?_); go_simp; refine hK _ ?_; clear hK K
      refine wpStill_step (fun K hK => ?_); go_simp; refine hK _ ?_; clear hK K
      refine wpStill_step (fun K hK => ?_); go_simp; refine ⟨_, still_same T3.out, hK _ ?_⟩; clear hK K
      refine wpStill_step (fun K hK => ?_); go_simp; refine hK _ ?_; clear hK K
      refine wpStill_step (fun K hK => ?_); go_simp; refine hK _ ?_; clear hK K
      refine wpStill_step (fun K hK => ?_); go_simp; refine hK _ ?_; clear hK K
      refine wpStill_step (fun K hK => ?_); go_simp; refine hK _ ?_; clear hK K
      refine wpStill_step (fun K hK => ?_); go_simp; refine hK _ ?_; clear hK K
      refine wpStill_step (fun K hK => ?_); go_simp; refine hK _ ?_; clear hK K
      refine wpStill_step (fun K hK => ?_); go_simp; refine hK _ ?_; clear hK K
      refine wpStill_step (fun K hK => ?_); go_simp; refine hK _ ?_; clear hK K
      refine wpStill_step (fun K hK => ?_); go_simp; refine hK _ ?_; clear hK K
      refine wpStill_step (fun K hK => ?_); go_simp; refine hK _ ?_; clear hK K
      refine wpStill_step (fun K hK => ?_); go_simp; refine hK _ ?_; clear hK K
      refine wpStill_step (fun K hK => ?_); go_simp; refine hK _ ?_; clear hK K
      refine wpStill_step (fun K hK => ?_); go_simp; refine hK _ ?_; clear hK K
      refine wpStill_step (fun K hK => ?_); go_simp; refine hK _ ?_; clear hK K
      refine wpStill_step (fun K hK => ?_); go_simp; refine hK _ ?_; clear hK K
      refine wpStill_step (fun K hK => ?_); go_simp; refine hK _ ?_; clear hK K
      refine wpStill_step (fun K hK => ?_); go_simp; refine hK _ ?_; clear hK K
      refine wpStill_step (fun K hK => ?_); go_simp; refine hK _ ?_; clear hK K
      refine wpStill_step (fun K hK => ?_); go_simp; refine hK _ ?_; clear hK K
      refine wpStill_step (fun K hK => ?_); go_simp; refine hK _ ?_; clear hK K
      refine wpStill_nil ?_
      go_wp2_with fail
      refine (T4.out _).mono ?_; rintro e' w' ⟨rfl, rfl⟩
      go_wp2_with fail
      refine (T5.out _).mono ?_; rintro e' w' ⟨rfl, rfl⟩
      go_wp2_with fail
      refine (T6.out _).mono ?_; rintro e' w' ⟨rfl, rfl⟩
      go_wp2_with fail
      go_roundw
      case rel =>
        exact ⟨k + 1, a2, a, b1, c1, d2, e, f, g1, by omega, HX.out, rfl, rfl, rfl, rfl, rfl, rfl, rfl, rfl, by go_num, hWr, hSr, hZr, HKr, hbr⟩
      case measure => simp [intOf]; omega
    · obtain rfl : k = 64 := by omega
      have HM := HMIX.out
      rw [hst] at HM
      unfold Sh.St.onto at HM
      simp only [] at HM
      have v0 := add_wrap S0.a a
      generalize Sh.add S0.a a = z0 at *
      have v1 := add_wrap S0.b b1
      generalize Sh.add S0.b b1 = z1 at *
      have v2 := add_wrap S0.c c1
      generalize Sh.add S0.c c1 = z2 at *
      have v3 := add_wrap S0.d d
      generalize Sh.add S0.d d = z3 at *
      have v4 := add_wrap S0.e e
      generalize Sh.add S0.e e = z4 at *
      have v5 := add_wrap S0.f f
      generalize Sh.add S0.f f = z5 at *
      have v6 := add_wrap S0.g g1
      generalize Sh.add S0.g g1 = z6 at *
      have v7 := add_wrap S0.h h
      generalize Sh.add S0.h h = z7 at *
      have HMM := Lib.hid HM
      obtain ⟨k0, k1, k2, k3, k4, k5, k6, k7⟩ := HS.out _ _ hSr
      clear hst hlt hk HM HMIX
      go_wp2_with (refine wpList_store_row rfl 93 (.tmp 4) (.tmp 130) rfl _ (uv [z0, z1, z2, z3, z4, z5, z6, z7]).toArray rfl rfl _ Z hZr infoS8 (by rw [HZ8.out]; rfl) (uv_all _) ?_)
      exact bodyPost_ret (v := .agg (uv [z0, z1, z2, z3, z4, z5, z6, z7]).toArray) (results_cell_row rfl _ _ (w.heap.size + 1 + 1) _ _ _ _ rfl (hZr.row _) Tryd.underlying93 rfl infoS8) rfl ⟨by rw [HMM.out], below_setRow hbr (by omega) _⟩
end Go.Proofs.YtjgegggcbjecbaaDoor

namespace Go.Proofs.YtjgegggcbjecbaaDoor
open Go Go.RowKit

theorem dz_infoD32 : (Tryd.prog.info? 34).map (·.size) = some 32 := by kernel_rfl

/-- Bytes so far, with noughts behind them, in a row of n. -/
def bz (l : List UInt8) (n : Nat) : Array Value := (bv (l ++ List.replicate (n - l.length) 0)).toArray
theorem bz_full {l : List UInt8} {n : Nat} (h : l.length = n) : bz l n = (bv l).toArray := by unfold bz; rw [h, Nat.sub_self, List.replicate_zero, List.append_nil]
theorem bz_size {l : List UInt8} {n : Nat} (h : l.length ≤ n) : (bz l n).size = n := by
  unfold bz; rw [dz_bv_size, List.length_append, List.length_replicate]; omega
theorem bz_in {l : List UInt8} {n p : Nat} (hl : l.length ≤ p) (h : p < n) : (bz l n)[p]? = some (.int .u8 0) := by
  unfold bz
  rw [dz_bv_at _ (by rw [List.length_append, List.length_replicate]; omega)]
  unfold Sh.byteAt
  rw [List.getD_eq_getElem?_getD, List.getElem?_append_right hl, List.getElem?_replicate, if_pos (by omega)]
  rfl
theorem bz_set {l : List UInt8} {n : Nat} (h : l.length < n) {x : Nat} (hx : x < 256) : (bz l n).setIfInBounds l.length (.int .u8 (x : Int)) = bz (l ++ [UInt8.ofNat x]) n := by
  unfold bz
  rw [bv_append, bv_append, bv_append, dz_byte_cell hx, List.setIfInBounds_toArray, List.length_append, List.length_cons, List.length_nil]
  congr 1
  rw [show n - l.length = (n - (l.length + (0 + 1))) + 1 by omega, List.replicate_succ]
  rw [← bv_length l, List.set_append_right _ _ (Nat.le_refl _), Nat.sub_self]
  unfold bv
  simp

/-- The first so many bytes of a state. -/
def outs (s : List Nat) (m : Nat) : List UInt8 := (List.range m).map fun i => UInt8.ofNat (Sh.outByte s i)
theorem outs_length (s : List Nat) (m : Nat) : (outs s m).length = m := by unfold outs; rw [List.length_map, List.length_range]
theorem outs_succ (s : List Nat) (m : Nat) : outs s (m + 1) = outs s m ++ [UInt8.ofNat (Sh.outByte s m)] := by unfold outs; rw [List.range_succ, List.map_append]; rfl
theorem outs_all (s : List Nat) : outs s 32 = Sh.out s := rfl
theorem outByte_lt (s : List Nat) (i : Nat) : Sh.outByte s i < 256 := Nat.mod_lt _ (by decide)
theorem outs_set (s : List Nat) {m : Nat} (h : m < 32) : (bz (outs s m) 32).setIfInBounds m (.int .u8 (Sh.outByte s m : Int)) = bz (outs s (m + 1)) 32 := by
  have := bz_set (l := outs s m) (n := 32) (by rw [outs_length]; exact h) (outByte_lt s m)
  rw [outs_length] at this
  rw [this, outs_succ]

set_option maxRecDepth 100000 in
set_option maxHeartbeats 4000000 in
theorem digest_any (s : List Nat) (w : World) (hs : s.length = 8) (hws : Sh.Ws s) :
    Calls Tryd.prog 59 #[.agg (uv s).toArray] w fun e w' => e = .returned (.agg (bv (Sh.out s)).toArray) ∧ Below w.heap.size w w' := by
  have h8 := uv_size s
  rw [hs] at h8
  have H8 := Lib.hid h8
  have HAT := Lib.hid (fun (p : Nat) (h : p < 8) => uv_at' s (p := p) (by rw [hs]; exact h))
  clear hs h8
  obtain ⟨S, hS⟩ : ∃ S, S = (uv s).toArray := ⟨_, rfl⟩
  rw [← hS] at H8 HAT ⊢
  clear hS
  go_enter Tryd.func59, Tryd.ntmps59
  have s1 : (w.alloc (.cells S 93)).heap.size = w.heap.size + 1 := by simp
  have hS0 : Blk (w.alloc (.cells S 93)) w.heap.size 93 S := Blk.new w _ _
  have hW0 : Below w.heap.size w (w.alloc (.cells S 93)) := (Below.refl _ _).alloc (Nat.le_refl _) _
  have HSZ := Lib.hid s1
  clear s1
  go_wp2_with (refine wpList_load_row rfl 93 (.tmp 1) rfl _ rfl _ S _ _ ((hS0.alloc _).alloc _) Tryd.underlying93 rfl (by rw [H8.out]; exact infoS8) ?_)
  go_loopw [7] (fun i wr => ∃ k : Nat, k ≤ 8 ∧ i = .int .i64 (k : Int) ∧ Blk wr (w.heap.size + 1) 34 (bz [] 32) ∧ Blk wr (w.heap.size + 1 + 1) 34 (bz (outs s (4 * k)) 32) ∧ Below w.heap.size w wr) (fun i _ => 8 - (intOf i).toNat)
  case atStart =>
    have s2 : ((w.alloc (.cells S 93)).alloc (.cells (bz [] 32) 34)).heap.size = w.heap.size + 1 + 1 := by simp
    exact ⟨0, Nat.zero_le _, rfl, HSZ.out ▸ (Blk.new (w.alloc (.cells S 93)) _ (bz [] 32)).alloc _, s2 ▸ Blk.new ((w.alloc (.cells S 93)).alloc (.cells (bz [] 32) 34)) _ (bz [] 32), (hW0.alloc hW0.size _).alloc (by simp; omega) _⟩
  case round =>
    obtain ⟨k, hk, rfl, hgr, hgw, hbk⟩ := hrel
    by_cases hlt : k < 8
    · have hx := HAT.out k hlt
      have bx := hws.at k
      have hix := fun w : World => run_index_agg (P := Tryd.prog) Tryd.underlying93 Tryd.underlying79 (by kernel_rfl) S k _ hlt hx w
      clear hx
      have y0 : Sh.outByte s (4 * k) = s.getD k 0 / 16777216 % 256 := by unfold Sh.outByte; rw [show 4 * k / 4 = k by omega, show 4 * k % 4 = 0 by omega]
      have y1 : Sh.outByte s (4 * k + 1) = s.getD k 0 / 65536 % 256 := by unfold Sh.outByte; rw [show (4 * k + 1) / 4 = k by omega, show (4 * k + 1) % 4 = 1 by omega]
      have y2 : Sh.outByte s (4 * k + 2) = s.getD k 0 / 256 % 256 := by unfold Sh.outByte; rw [show (4 * k + 2) / 4 = k by omega, show (4 * k + 2) % 4 = 2 by omega]
      have y3 : Sh.outByte s (4 * k + 3) = s.getD k 0 % 256 := by unfold Sh.outByte; rw [show (4 * k + 3) / 4 = k by omega, show (4 * k + 3) % 4 = 3 by omega]; simp
      have u0 := outs_set s (m := 4 * k) (by omega)
      have u1 := outs_set s (m := 4 * k + 1) (by omega)
      have u2 := outs_set s (m := 4 * k + 2) (by omega)
      have u3 := outs_set s (m := 4 * k + 3) (by omega)
      generalize s.getD k 0 = x at *
      have hx256 : x / 16777216 < 256 := by omega
      have v0 : IntKind.u8.wrap ((x : Int) / 16777216) = (Sh.outByte s (4 * k) : Int) := by rw [IntKind.wrap_u8, y0]; omega
      have v1 : IntKind.u8.wrap ((x : Int) / 65536) = (Sh.outByte s (4 * k + 1) : Int) := by rw [IntKind.wrap_u8, y1]; omega
      have v2 : IntKind.u8.wrap ((x : Int) / 256) = (Sh.outByte s (4 * k + 2) : Int) := by rw [IntKind.wrap_u8, y2]; omega
      have v3 : IntKind.u8.wrap (x : Int) = (Sh.outByte s (4 * k + 3) : Int) := by rw [IntKind.wrap_u8, y3]; omega
      have U0 := Lib.hid u0
      have U1 := Lib.hid u1
      have U2 := Lib.hid u2
      have U3 := Lib.hid u3
      have z0 : ∀ m, m ≤ 32 → (bz (outs s m) 32).size = 32 := fun m h => bz_size (by rw [outs_length]; exact h)
      have Z0 := Lib.hid z0
      have V3 := Lib.hid v3
      have V0 := Lib.hid v0
      clear y0 y1 y2 y3 u0 u1 u2 u3 z0
      go_upto_region 5 with (fail)
      clear hix
      generalize Sh.outByte s (4 * k) = n0 at *
      generalize Sh.outByte s (4 * k + 1) = n1 at *
      generalize Sh.outByte s (4 * k + 2) = n2 at *
      generalize Sh.outByte s (4 * k + 3) = n3 at *
      go_wp2_with (first
        | (refine at_sto 5 (.tmp 33) (.tmp 24) rfl ?_; go_must (refine wpList_store_blk rfl 5 (.tmp 33) (.tmp 24) rfl _ (4 * k) (.int .u8 (n0 : Int)) rfl rfl _ _ hgw (by rw [Z0.out (4 * k) (by omega)]; omega) rfl (by kernel_rfl) ?_; intro wa hga hka hsa hba; rw [U0.out] at hga; have hgra := hgr.other hka (by omega); have hbka := hba _ _ (by omega) hbk))
        | (refine at_sto 5 (.tmp 34) (.tmp 27) rfl ?_; go_must (refine wpList_store_blk rfl 5 (.tmp 34) (.tmp 27) rfl _ (4 * k + 1) (.int .u8 (n1 : Int)) rfl rfl _ _ hga (by rw [Z0.out (4 * k + 1) (by omega)]; omega) rfl (by kernel_rfl) ?_; intro wb hgb hkb hsb hbb; rw [U1.out] at hgb; have hgrb := hgra.other hkb (by omega); have hbkb := hbb _ _ (by omega) hbka))
        | (refine at_sto 5 (.tmp 35) (.tmp 30) rfl ?_; go_must (refine wpList_store_blk rfl 5 (.tmp 35) (.tmp 30) rfl _ (4 * k + 2) (.int .u8 (n2 : Int)) rfl rfl _ _ hgb (by rw [Z0.out (4 * k + 2) (by omega)]; omega) rfl (by kernel_rfl) ?_; intro wc hgc hkc hsc hbc; rw [U2.out] at hgc; have hgrc := hgrb.other hkc (by omega); have hbkc := hbc _ _ (by omega) hbkb))
        | (refine at_sto 5 (.tmp 36) (.tmp 32) rfl ?_; go_must (refine wpList_store_blk rfl 5 (.tmp 36) (.tmp 32) rfl _ (4 * k + 3) (.int .u8 (n3 : Int)) rfl rfl _ _ hgc (by rw [Z0.out (4 * k + 3) (by omega)]; omega) rfl (by kernel_rfl) ?_; intro wd hgd hkd hsd hbd; rw [U3.out] at hgd; have hgrd := hgrc.other hkd (by omega); have hbkd := hbd _ _ (by omega) hbkc)))
      go_roundw
      case rel => exact ⟨k + 1, by omega, by go_num, hgrd, hgd, hbkd⟩
      case measure => simp [intOf]; omega
    · obtain rfl : k = 8 := by omega
      clear hk hlt
      rw [show outs s (4 * 8) = Sh.out s from rfl, bz_full (by rw [← outs_all, outs_length])] at hgw
      have hz := dz_bv_size (Sh.out s)
      rw [← outs_all, outs_length, outs_all] at hz
      have HZ := Lib.hid hz
      have hz2 : (bz [] 32).size = 32 := bz_size (by decide)
      have HZ2 := Lib.hid hz2
      have HA := Lib.hid (dz_bv_all (Sh.out s))
      clear hz hz2
      obtain ⟨C, hC⟩ : ∃ C, C = (bv (Sh.out s)).toArray := ⟨_, rfl⟩
      rw [← hC] at hgw HZ HA
      have HC := Lib.hid hC
      clear hC
      generalize bz [] 32 = Z at *
      go_wp2_with (first
        | (refine wpList_load_row rfl 34 (.tmp 3) rfl _ rfl _ C _ _ hgw Tryd.underlying34 rfl (by rw [HZ.out]; exact dz_infoD32) ?_)
        | (refine wpList_store_row rfl 34 (.tmp 2) (.tmp 38) rfl _ C rfl rfl _ Z hgr (by rw [HZ.out]; exact dz_infoD32) (by rw [HZ.out, HZ2.out]) HA.out ?_))
      exact bodyPost_ret (v := .agg C) (results_cell_row rfl _ _ (w.heap.size + 1) _ C _ _ rfl (hgr.row C) Tryd.underlying34 rfl (by rw [HZ.out]; exact dz_infoD32)) rfl ⟨by rw [HC.out], below_setRow hbk (by omega) _⟩
end Go.Proofs.YtjgegggcbjecbaaDoor

namespace Go.Proofs.YtjgegggcbjecbaaDoor.Sh

/-- What is left behind the whole blocks. -/
def rest (l : List UInt8) : List UInt8 := l.drop (64 * (l.length / 64))
theorem rest_length (l : List UInt8) : (rest l).length = l.length % 64 := by unfold rest; rw [List.length_drop]; omega
/-- The state behind the whole blocks. -/
def stt (l : List UInt8) : List Nat := blocks l (l.length / 64)
theorem stt_length (l : List UInt8) : (stt l).length = 8 := blocks_length _ _
theorem stt_ws (l : List UInt8) : Ws (stt l) := blocks_ws _ _
/-- The block that is begun, with noughts behind it. -/
def pad (r : List UInt8) : List UInt8 := r ++ List.replicate (64 - r.length) 0
theorem pad_length {r : List UInt8} (h : r.length ≤ 64) : (pad r).length = 64 := by unfold pad; rw [List.length_append, List.length_replicate]; omega

theorem take_drop_append (l m : List UInt8) (i : Nat) (h : 64 * (i + 1) ≤ l.length) : ((l ++ m).drop (64 * i)).take 64 = (l.drop (64 * i)).take 64 := by
  rw [List.drop_append_of_le_length (by omega), List.take_append_of_le_length (by rw [List.length_drop]; omega)]
theorem blocks_append (l m : List UInt8) : ∀ i, 64 * i ≤ l.length → blocks (l ++ m) i = blocks l i
  | 0, _ => rfl
  | i + 1, h => by
    rw [blocks, blocks, blocks_append l m i (by omega), take_drop_append l m i h]

/-- A piece that does not fill the block. -/
theorem stt_less {l m : List UInt8} (h : l.length % 64 + m.length < 64) : stt (l ++ m) = stt l := by
  unfold stt
  rw [List.length_append, show (l.length + m.length) / 64 = l.length / 64 by omega]
  exact blocks_append l m _ (by omega)
theorem rest_less {l m : List UInt8} (h : l.length % 64 + m.length < 64) : rest (l ++ m) = rest l ++ m := by
  unfold rest
  rw [List.length_append, show (l.length + m.length) / 64 = l.length / 64 by omega]
  rw [List.drop_append_of_le_length (by omega)]
/-- A piece that fills it. -/
theorem stt_full {l m : List UInt8} (h : l.length % 64 + m.length = 64) : stt (l ++ m) = mix (stt l) (rest l ++ m) := by
  unfold stt
  rw [List.length_append, show (l.length + m.length) / 64 = l.length / 64 + 1 by omega, blocks, blocks_append l m _ (by omega)]
  congr 1
  rw [List.drop_append_of_le_length (by omega), List.take_of_length_le]
  · rfl
  · rw [List.length_append, List.length_drop]; omega
theorem rest_full {l m : List UInt8} (h : l.length % 64 + m.length = 64) : rest (l ++ m) = [] := by
  apply List.eq_nil_of_length_eq_zero
  rw [rest_length, List.length_append]
  omega

/-- The end: one block more. -/
theorem sum_one {l : List UInt8} (h : l.length % 64 < 56) :
    sum l = out (mix (stt l) (rest l ++ [128] ++ List.replicate (55 - l.length % 64) 0 ++ be8 (8 * l.length % 18446744073709551616) 8)) := by
  have hz : zeros l.length = 55 - l.length % 64 := by unfold zeros; omega
  have hw : whole l = l ++ ([128] ++ List.replicate (55 - l.length % 64) 0 ++ be8 (8 * l.length % 18446744073709551616) 8) := by
    unfold whole; rw [hz]; simp only [List.append_assoc]
  have hl : (whole l).length = l.length + (64 - l.length % 64) := by rw [whole_length, hz]; omega
  unfold sum
  have hs := stt_full (l := l) (m := [128] ++ List.replicate (55 - l.length % 64) 0 ++ be8 (8 * l.length % 18446744073709551616) 8)
    (by simp only [List.length_append, List.length_cons, List.length_nil, List.length_replicate, be8_length]; omega)
  rw [← hw] at hs
  unfold stt at hs
  rw [hs]
  simp only [List.append_assoc]
  rfl
/-- The end: two blocks more. -/
theorem sum_two {l : List UInt8} (h : 56 ≤ l.length % 64) :
    sum l = out (mix (mix (stt l) (rest l ++ [128] ++ List.replicate (63 - l.length % 64) 0)) (List.replicate 56 0 ++ be8 (8 * l.length % 18446744073709551616) 8)) := by
  have hz : zeros l.length = (63 - l.length % 64) + 56 := by unfold zeros; omega
  have hw : whole l = (l ++ ([128] ++ List.replicate (63 - l.length % 64) 0)) ++ (List.replicate 56 0 ++ be8 (8 * l.length % 18446744073709551616) 8) := by
    unfold whole; rw [hz, ← List.replicate_append_replicate]; simp only [List.append_assoc]
  have h1 := stt_full (l := l) (m := [128] ++ List.replicate (63 - l.length % 64) 0)
    (by simp only [List.length_append, List.length_cons, List.length_nil, List.length_replicate]; omega)
  have hl1 : (l ++ ([128] ++ List.replicate (63 - l.length % 64) 0)).length % 64 = 0 := by
    simp only [List.length_append, List.length_cons, List.length_nil, List.length_replicate]; omega
  have h2 := stt_full (l := l ++ ([128] ++ List.replicate (63 - l.length % 64) 0)) (m := List.replicate 56 0 ++ be8 (8 * l.length % 18446744073709551616) 8)
    (by rw [hl1]; simp only [List.length_append, List.length_replicate, be8_length])
  have hr : rest (l ++ ([128] ++ List.replicate (63 - l.length % 64) 0)) = [] := List.eq_nil_of_length_eq_zero (by rw [rest_length, hl1])
  rw [hr, List.nil_append, h1, ← hw] at h2
  unfold sum
  unfold stt at h2
  rw [h2]
  simp only [List.append_assoc]
  rfl
theorem stt_nil : stt [] = H := rfl
theorem rest_nil : rest [] = [] := rfl
theorem pad_nil : pad [] = List.replicate 64 0 := rfl
end Go.Proofs.YtjgegggcbjecbaaDoor.Sh

namespace Go.Proofs.YtjgegggcbjecbaaDoor
open Go Go.RowKit

section
variable {P : Program}
theorem dz_wpList_build_as {ops : Array Oper} {rest : List Oper} {o : Oper} {a : Act} {w : World} {Q : Exit → Act → World → Prop} (hg : o.guard = none) (t : TypeId) (parts : Array (Nat × Operand)) (ho : o.op = .build t parts)
    (ps : List (Nat × Value)) (hps : (parts.toList.map fun p => (p.1, a.eval p.2)) = ps) (cs : Array Value) (hcs : P.built t ps = some cs)
    (h : wpList P ops Q rest (a.put o.dst (.agg cs)) w) : wpList P ops Q (o :: rest) a w :=
  have e : (parts.map fun (i, x) => (i, a.eval x)).toList = ps := by rw [Array.toList_map]; exact hps
  wpList_build hg t parts ho (by rw [e, hcs]; rfl) (by rw [e, hcs]; exact h)
end
/-- Two blocks whose element types differ. -/
theorem Blk.ne_ {w : World} {g g' : Nat} {t t' : TypeId} {cs cs' : Array Value} (h : Blk w g t cs) (h' : Blk w g' t' cs') (hne : t ≠ t') : g ≠ g' := by
  rintro rfl
  unfold Blk at h h'
  rw [h] at h'
  injection h' with h'
  injection h' with _ ht
  exact hne ht
end Go.Proofs.YtjgegggcbjecbaaDoor
