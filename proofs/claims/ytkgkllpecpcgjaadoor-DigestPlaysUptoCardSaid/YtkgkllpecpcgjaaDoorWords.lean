/- Rows of words: cells, what is handed back, a word or a byte at a place. -/
import Derived.Test.YtkgkllpecpcgjaaDoorRefH
import Derived.Deep.RegionHeldLaw
import Derived.Laws.OwnMore
namespace Go.Proofs.YtkgkllpecpcgjaaDoor
open Go Go.RowKit

theorem infoU32 : (Tryd.prog.info? 46).map (fun i => (i.zero, i.size, i.bytes)) = some (some (.int .u32 0), 1, 4) := by kernel_rfl

/-- Words as cells. -/
def uv (l : List Nat) : List Value := l.map fun (x : Nat) => Value.int .u32 (x : Int)
theorem uv_length (l : List Nat) : (uv l).length = l.length := List.length_map _
theorem uv_append (l r : List Nat) : uv (l ++ r) = uv l ++ uv r := List.map_append
theorem uv_one (l : List Nat) : ∀ u ∈ uv l, u.oneCell' = true := by
  intro u hu
  obtain ⟨c, -, rfl⟩ := List.mem_map.1 hu
  rfl

/-- Words in new memory. -/
def GotU (l : List Nat) (w : World) (e : Ending) (w' : World) : Prop :=
  ∃ A c, e = .returned (.slice A l.length c) ∧ (l.length ≤ c ∧ c ≤ 9223372036854775807) ∧ Rd w' w'.heap.size A l.length (uv l) ∧ Below w.heap.size w w'

section
variable {w : World} {B n : Nat} {A : Option Addr}
theorem Rd.wordAt {l : List Nat} {k : Nat} (h : Rd w B A l.length (uv l)) (hk : k < l.length) : ∃ ad, A = some ad ∧ w.cell? (ad.add k) = some (.int .u32 (l.getD k 0 : Int)) := by
  obtain ⟨ad, u, hA, -, hu, hc⟩ := h.spot hk
  refine ⟨ad, hA, ?_⟩
  rw [hc]
  unfold uv at hu
  rw [List.getElem?_map, List.getElem?_eq_getElem hk] at hu
  rw [List.getD_eq_getElem?_getD, List.getElem?_eq_getElem hk]
  exact congrArg some (Option.some.inj hu).symm
theorem Rd.byteOf {l : List UInt8} {k : Nat} (h : Rd w B A l.length (bv l)) (hk : k < l.length) : ∃ ad, A = some ad ∧ w.cell? (ad.add k) = some (.int .u8 (Sh.byteAt l k : Int)) := by
  obtain ⟨ad, u, hA, -, hu, hc⟩ := h.spot hk
  refine ⟨ad, hA, ?_⟩
  rw [hc]
  unfold bv at hu
  rw [List.getElem?_map, List.getElem?_eq_getElem hk] at hu
  unfold Sh.byteAt
  rw [List.getD_eq_getElem?_getD, List.getElem?_eq_getElem hk]
  exact congrArg some (Option.some.inj hu).symm
end

/-- What an owned row looks like that has an element; a word of an owned row. -/
theorem own_some {w : World} {base : Nat} {e : TypeId} {size n : Nat} {v : Value} {xs : List Value} (h : w.ownsRow base e size v n xs) (h0 : 0 < n) :
    ∃ g c, v = .slice (some ⟨g, 0, none⟩) n c := by
  rcases h.2 with ⟨rfl, rfl⟩ | ⟨g, cap, cur, rfl, hb, _, hn, hm, _⟩
  · exact absurd h0 (Nat.lt_irrefl 0)
  · exact ⟨g, cap, rfl⟩
theorem own_word {w : World} {base : Nat} {e : TypeId} {g n c : Nat} {l : List Nat} (h : w.ownsRow base e 1 (.slice (some ⟨g, 0, none⟩) n c) n (uv l)) {j : Nat} (hj : j < n) : w.cell? ⟨g, j, none⟩ = some (.int .u32 (l.getD j 0 : Int)) := by
  have hl : l.length = n := by have := h.1; rwa [uv_length, Nat.mul_one] at this
  rw [h.cellAt j (by omega)]
  unfold uv
  rw [List.getElem?_map, List.getElem?_eq_getElem (by omega), List.getD_eq_getElem?_getD, List.getElem?_eq_getElem (by omega)]
  rfl

theorem uv_at (l : List Nat) {j : Nat} (hj : j < l.length) : (uv l)[j]? = some (.int .u32 (l.getD j 0 : Int)) := by
  unfold uv
  rw [List.getElem?_map, List.getElem?_eq_getElem hj, List.getD_eq_getElem?_getD, List.getElem?_eq_getElem hj]
  rfl
theorem add_nought (g j : Nat) : (⟨g, 0, none⟩ : Addr).add j = ⟨g, j, none⟩ := by
  unfold Addr.add
  split <;> simp [*]

/-- One new cell, behind a draw. -/
theorem new_one {P : Program} {tx e : TypeId} (hk : P.underlying tx = some (.slice e)) (w : World) (u : Value) (t : TypeId) (h1 : u.oneCell' = true) : Src P 1 tx (.slice (some ⟨w.heap.size, 0, none⟩) 1 1) 1 [u] (w.alloc (.cells #[u] t)).drew :=
  (show Rd (w.alloc (.cells #[u] t)) (w.heap.size + 1) (some ⟨w.heap.size, 0, none⟩) 1 [u] from ⟨rfl, fun _ => ⟨_, rfl, Nat.lt_succ_self _, World.news_of_block (heap_alloc_new w _)⟩⟩).drew.src hk 1 (by intro v hv; rw [List.mem_singleton.1 hv]; exact h1)

/-- One word as a cell. -/
theorem uv_cell (x : Nat) : uv [x] = [Value.int .u32 (x : Int)] := rfl

theorem not_nat {e : Nat} (h : e < 4294967296) : 4294967295 ^^^ e = 4294967295 - e := by
  have := congrArg BitVec.toNat (BitVec.allOnes_xor (x := BitVec.ofNat 32 e))
  simpa [BitVec.toNat_xor, BitVec.toNat_allOnes, BitVec.toNat_not, Nat.mod_eq_of_lt h] using this
theorem not_u32 {e : Nat} (h : e < 4294967296) : bits .xor .u32 IntKind.u32.max (e : Int) = ((4294967295 - e : Nat) : Int) := by
  rw [← not_nat h, show IntKind.u32.max = 4294967295 by decide]
  exact u32_xor_nat 4294967295 e (by decide) h

/-- The word of a constant text, where its words are told. -/
theorem word_K (s : ByteArray) (l : List Nat) (n k : Nat) (w : World) (hs : (List.range n).map (fun i => Sh.wordOf 0 ((s.data.toList.drop (8 * i)).take 8)) = l) (hz : s.size = 8 * n) (hn : n ≤ 64) (hk : k < n) :
    Calls Tryd.prog 26 #[.string s, .int .i64 (k : Int)] w fun e w' => e = .returned (.int .u32 (l.getD k 0 : Int)) ∧ w = w' := by
  have h := word_any s k w (by omega) (by omega)
  have e : l.getD k 0 = Sh.wordOf 0 ((s.data.toList.drop (8 * k)).take 8) := by
    subst hs
    rw [List.getD_eq_getElem?_getD, List.getElem?_map, List.getElem?_range hk]
    rfl
  rw [e]
  exact h

theorem add_wrap (a b : Nat) : IntKind.u32.wrap ((a : Int) + (b : Int)) = ((Sh.add a b : Nat) : Int) := by
  rw [IntKind.wrap_u32]; unfold Sh.add; omega
end Go.Proofs.YtkgkllpecpcgjaaDoor
