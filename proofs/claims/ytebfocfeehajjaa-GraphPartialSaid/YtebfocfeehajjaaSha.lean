/- SHA-256 as plain mathematics: words are numbers below 2^32. -/
import Derived.Lib.BitFns
namespace Go.Proofs.Ytebfocfeehajjaa.Sh

/-- A word turned to the right. -/
def turn (x n : Nat) : Nat := (x / 2 ^ n) ||| (x * 2 ^ (32 - n) % 4294967296)
theorem turn_lt {x : Nat} (n : Nat) (h : x < 4294967296) : turn x n < 4294967296 :=
  Nat.or_lt_two_pow (n := 32) (Nat.lt_of_le_of_lt (Nat.div_le_self _ _) h) (Nat.mod_lt _ (by decide))

/-- The sum of two words. -/
def add (a b : Nat) : Nat := (a + b) % 4294967296
theorem add_lt (a b : Nat) : add a b < 4294967296 := Nat.mod_lt _ (by decide)

/-- A digit to the base 16; 16: it is none. -/
def digit (c : Nat) : Nat := if 48 ≤ c ∧ c ≤ 57 then c - 48 else if 97 ≤ c ∧ c ≤ 102 then c - 87 else 16
theorem digit_le (c : Nat) : digit c ≤ 16 := by unfold digit; split <;> (try split) <;> omega

/-- So many digits' word, behind others. -/
def wordOf : Nat → List UInt8 → Nat
  | x, [] => x
  | x, c :: r => wordOf (add (16 * x % 4294967296) (digit c.toNat)) r
theorem wordOf_lt : ∀ (l : List UInt8) (x : Nat), x < 4294967296 → wordOf x l < 4294967296
  | [], _, h => h
  | _ :: r, _, _ => wordOf_lt r _ (add_lt _ _)
theorem wordOf_snoc : ∀ (l : List UInt8) (x : Nat) (c : UInt8), wordOf x (l ++ [c]) = add (16 * wordOf x l % 4294967296) (digit c.toNat)
  | [], _, _ => rfl
  | _ :: r, _, c => wordOf_snoc r _ c

/-- The constants. -/
def K : List Nat := [0x428a2f98, 0x71374491, 0xb5c0fbcf, 0xe9b5dba5, 0x3956c25b, 0x59f111f1, 0x923f82a4, 0xab1c5ed5,
  0xd807aa98, 0x12835b01, 0x243185be, 0x550c7dc3, 0x72be5d74, 0x80deb1fe, 0x9bdc06a7, 0xc19bf174,
  0xe49b69c1, 0xefbe4786, 0x0fc19dc6, 0x240ca1cc, 0x2de92c6f, 0x4a7484aa, 0x5cb0a9dc, 0x76f988da,
  0x983e5152, 0xa831c66d, 0xb00327c8, 0xbf597fc7, 0xc6e00bf3, 0xd5a79147, 0x06ca6351, 0x14292967,
  0x27b70a85, 0x2e1b2138, 0x4d2c6dfc, 0x53380d13, 0x650a7354, 0x766a0abb, 0x81c2c92e, 0x92722c85,
  0xa2bfe8a1, 0xa81a664b, 0xc24b8b70, 0xc76c51a3, 0xd192e819, 0xd6990624, 0xf40e3585, 0x106aa070,
  0x19a4c116, 0x1e376c08, 0x2748774c, 0x34b0bcb5, 0x391c0cb3, 0x4ed8aa4a, 0x5b9cca4f, 0x682e6ff3,
  0x748f82ee, 0x78a5636f, 0x84c87814, 0x8cc70208, 0x90befffa, 0xa4506ceb, 0xbef9a3f7, 0xc67178f2]
def H : List Nat := [0x6a09e667, 0xbb67ae85, 0x3c6ef372, 0xa54ff53a, 0x510e527f, 0x9b05688c, 0x1f83d9ab, 0x5be0cd19]

/-- All are words. -/
def Ws (l : List Nat) : Prop := ∀ x ∈ l, x < 4294967296
theorem Ws.at {l : List Nat} (h : Ws l) (i : Nat) : l.getD i 0 < 4294967296 := by
  rw [List.getD_eq_getElem?_getD]
  cases hi : l[i]? with
  | none => decide
  | some x => exact h x (List.mem_of_getElem? hi)
theorem Ws.snoc {l : List Nat} (h : Ws l) {x : Nat} (hx : x < 4294967296) : Ws (l ++ [x]) := by
  intro y hy
  rcases List.mem_append.1 hy with hy | hy
  · exact h y hy
  · rw [List.mem_singleton.1 hy]; exact hx
theorem Ws.nil : Ws [] := fun x h => by cases h
theorem K_ws : Ws K := by unfold Ws; decide
theorem H_ws : Ws H := by unfold Ws; decide

/-- A byte of some bytes. -/
def byteAt (l : List UInt8) (i : Nat) : Nat := (l.getD i 0).toNat
theorem byteAt_lt (l : List UInt8) (i : Nat) : byteAt l i < 256 := (l.getD i 0).toNat_lt

/-- The i-th word of a block, and the next word of those so far. -/
def word4 (b : List UInt8) (i : Nat) : Nat := add (add (add (byteAt b (4 * i) * 16777216) (byteAt b (4 * i + 1) * 65536)) (byteAt b (4 * i + 2) * 256)) (byteAt b (4 * i + 3))
def mixX (x : Nat) : Nat := (turn x 7 ^^^ turn x 18) ^^^ (x / 8)
def mixY (x : Nat) : Nat := (turn x 17 ^^^ turn x 19) ^^^ (x / 1024)
def next (w : List Nat) (i : Nat) : Nat := add (add (add (w.getD (i - 16) 0) (mixX (w.getD (i - 15) 0))) (w.getD (i - 7) 0)) (mixY (w.getD (i - 2) 0))
def words (b : List UInt8) : Nat → List Nat
  | 0 => []
  | i + 1 => words b i ++ [if i < 16 then word4 b i else next (words b i) i]
theorem words_length (b : List UInt8) : ∀ i, (words b i).length = i
  | 0 => rfl
  | i + 1 => by rw [words, List.length_append, words_length b i]; rfl
theorem words_ws (b : List UInt8) : ∀ i, Ws (words b i)
  | 0 => Ws.nil
  | i + 1 => by
    rw [words]
    refine (words_ws b i).snoc ?_
    split
    · exact add_lt _ _
    · exact add_lt _ _

theorem xor_lt {a b : Nat} (ha : a < 4294967296) (hb : b < 4294967296) : a ^^^ b < 4294967296 := Nat.xor_lt_two_pow (n := 32) ha hb
theorem and_lt {a b : Nat} (hb : b < 4294967296) : a &&& b < 4294967296 := Nat.lt_of_le_of_lt Nat.and_le_right hb
theorem mixX_lt {x : Nat} (h : x < 4294967296) : mixX x < 4294967296 := xor_lt (xor_lt (turn_lt _ h) (turn_lt _ h)) (by omega)
theorem mixY_lt {x : Nat} (h : x < 4294967296) : mixY x < 4294967296 := xor_lt (xor_lt (turn_lt _ h) (turn_lt _ h)) (by omega)

/-- A state, and one of the rounds. -/
structure St where
  a : Nat
  b : Nat
  c : Nat
  d : Nat
  e : Nat
  f : Nat
  g : Nat
  h : Nat
def St.ok (s : St) : Prop := s.a < 4294967296 ∧ s.b < 4294967296 ∧ s.c < 4294967296 ∧ s.d < 4294967296 ∧ s.e < 4294967296 ∧ s.f < 4294967296 ∧ s.g < 4294967296 ∧ s.h < 4294967296
def sumE (e : Nat) : Nat := (turn e 6 ^^^ turn e 11) ^^^ turn e 25
def sumA (a : Nat) : Nat := (turn a 2 ^^^ turn a 13) ^^^ turn a 22
def chs (e f g : Nat) : Nat := (e &&& f) ^^^ ((4294967295 - e) &&& g)
def maj (a b c : Nat) : Nat := ((a &&& b) ^^^ (a &&& c)) ^^^ (b &&& c)
def St.t (s : St) (k w : Nat) : Nat := add (add (add (add s.h (sumE s.e)) (chs s.e s.f s.g)) k) w
def St.u (s : St) : Nat := add (sumA s.a) (maj s.a s.b s.c)
def St.step (s : St) (k w : Nat) : St := ⟨add (s.t k w) s.u, s.a, s.b, s.c, add s.d (s.t k w), s.e, s.f, s.g⟩
theorem sumE_lt {e : Nat} (h : e < 4294967296) : sumE e < 4294967296 := xor_lt (xor_lt (turn_lt _ h) (turn_lt _ h)) (turn_lt _ h)
theorem sumA_lt {e : Nat} (h : e < 4294967296) : sumA e < 4294967296 := xor_lt (xor_lt (turn_lt _ h) (turn_lt _ h)) (turn_lt _ h)
theorem chs_lt {e f g : Nat} (hf : f < 4294967296) (hg : g < 4294967296) : chs e f g < 4294967296 := xor_lt (and_lt hf) (and_lt hg)
theorem maj_lt {a b c : Nat} (hb : b < 4294967296) (hc : c < 4294967296) : maj a b c < 4294967296 := xor_lt (xor_lt (and_lt hb) (and_lt hc)) (and_lt hc)
theorem St.step_ok {s : St} (h : s.ok) (k w : Nat) : (s.step k w).ok := by
  obtain ⟨ha, hb, hc, hd, he, hf, hg, hh⟩ := h
  exact ⟨add_lt _ _, ha, hb, hc, add_lt _ _, he, hf, hg⟩

/-- The state behind so many rounds. -/
def rounds (w : List Nat) (s : St) : Nat → St
  | 0 => s
  | i + 1 => (rounds w s i).step (K.getD i 0) (w.getD i 0)
theorem rounds_ok (w : List Nat) {s : St} (h : s.ok) : ∀ i, (rounds w s i).ok
  | 0 => h
  | i + 1 => St.step_ok (rounds_ok w h i) _ _

def St.of (s : List Nat) : St := ⟨s.getD 0 0, s.getD 1 0, s.getD 2 0, s.getD 3 0, s.getD 4 0, s.getD 5 0, s.getD 6 0, s.getD 7 0⟩
theorem St.of_ok {s : List Nat} (h : Ws s) : (St.of s).ok := ⟨h.at 0, h.at 1, h.at 2, h.at 3, h.at 4, h.at 5, h.at 6, h.at 7⟩
def St.onto (s r : St) : List Nat := [add s.a r.a, add s.b r.b, add s.c r.c, add s.d r.d, add s.e r.e, add s.f r.f, add s.g r.g, add s.h r.h]

/-- A state behind a block. -/
def mix (s : List Nat) (b : List UInt8) : List Nat := (St.of s).onto (rounds (words b 64) (St.of s) 64)
theorem mix_length (s : List Nat) (b : List UInt8) : (mix s b).length = 8 := rfl
theorem onto_ws (s r : St) : Ws (s.onto r) := by
  intro x hx
  unfold St.onto at hx
  simp only [List.mem_cons, List.not_mem_nil, or_false] at hx
  rcases hx with rfl | rfl | rfl | rfl | rfl | rfl | rfl | rfl <;> exact add_lt _ _
theorem mix_ws (s : List Nat) (b : List UInt8) : Ws (mix s b) := onto_ws _ _

/-- Eight bytes, the highest first: the last i of them. -/
def be8 (n : Nat) : Nat → List UInt8
  | 0 => []
  | i + 1 => UInt8.ofNat (n / 2 ^ (8 * i) % 256) :: be8 n i
theorem be8_length (n : Nat) : ∀ i, (be8 n i).length = i
  | 0 => rfl
  | i + 1 => by rw [be8, List.length_cons, be8_length n i]

/-- How many bytes 0 come behind the byte 128. -/
def zeros (n : Nat) : Nat := (119 - n % 64) % 64
def whole (l : List UInt8) : List UInt8 := l ++ [128] ++ List.replicate (zeros l.length) 0 ++ be8 (8 * l.length % 18446744073709551616) 8
theorem whole_length (l : List UInt8) : (whole l).length = l.length + 1 + zeros l.length + 8 := by
  simp [whole, be8_length]; omega
theorem whole_blocks (l : List UInt8) : (whole l).length = 64 * ((whole l).length / 64) := by
  rw [whole_length]; unfold zeros; omega

/-- The state behind so many blocks. -/
def blocks (l : List UInt8) : Nat → List Nat
  | 0 => H
  | i + 1 => mix (blocks l i) ((l.drop (64 * i)).take 64)
theorem blocks_length (l : List UInt8) : ∀ i, (blocks l i).length = 8
  | 0 => rfl
  | _ + 1 => rfl
theorem blocks_ws (l : List UInt8) : ∀ i, Ws (blocks l i)
  | 0 => H_ws
  | _ + 1 => mix_ws _ _

/-- A byte of the words, and the digest. -/
def outByte (s : List Nat) (i : Nat) : Nat := s.getD (i / 4) 0 / 2 ^ (24 - 8 * (i % 4)) % 256
def out (s : List Nat) : List UInt8 := (List.range 32).map fun i => UInt8.ofNat (outByte s i)
def sum (l : List UInt8) : List UInt8 := out (blocks (whole l) ((whole l).length / 64))

theorem sum_abc : sum [97, 98, 99] = [0xba, 0x78, 0x16, 0xbf, 0x8f, 0x01, 0xcf, 0xea, 0x41, 0x41, 0x40, 0xde, 0x5d, 0xae, 0x22, 0x23, 0xb0, 0x03, 0x61, 0xa3, 0x96, 0x17, 0x7a, 0x9c, 0xb4, 0x10, 0xff, 0x61, 0xf2, 0x00, 0x15, 0xad] := by
  decide +kernel
end Go.Proofs.Ytebfocfeehajjaa.Sh
