/- Arguments opened: bytes, and lists of texts; what their size's bounds give. -/
import Derived.Test.YtjgegggcbjecbaaBase
import Derived.SizedLaws
import Derived.SliceStrings
import Derived.ChangeSlices
import Derived.ProofKit
import Derived.OpenShut
import Derived.Carry
namespace Go.Proofs.Ytjgegggcbjecbaa
open Go Go.ChangeShapes Go.WideShapes Go.RowKit

section
variable {H : Type} {enc : TypeId × Value → H} {P : Program} {W : World}

theorem lt_of_cell {w : World} {ad : Addr} {u : Value} (h : w.cell? ad = some u) : ad.block < w.heap.size := World.block_lt_of_cell? w ad h

theorem wf_u8 {n : Int} (h : (Lit.int .u8 n).wf = true) : 0 ≤ n ∧ n < 256 := by
  have e1 : IntKind.u8.min = 0 := by decide
  have e2 : IntKind.u8.max = 255 := by decide
  have h2 : 0 ≤ n ∧ n ≤ 255 := by simpa [Lit.wf, e1, e2] using h
  omega

/-- BYTES THAT CAME IN. -/
def InBytes (H : Type) (W : World) (v : Value) (d : DataW H) (A : Option Addr) (c : Nat) (l : List UInt8) : Prop :=
  v = .slice A l.length c ∧ l.length ≤ c ∧ c ≤ 9223372036854775807 ∧ Rd W W.heap.size A l.length (bv l) ∧ ((d = .nil ∧ c = 0) ∨ ∃ es sp, d = .slice es sp ∧ es.length + sp.length = c)

theorem open_bytes1 {t e : TypeId} {fuel : Nat} {v : Value} {x : DataW H × List MemPlace} (ht : P.underlying t = some (.slice e)) (he : P.underlying e = some (.int .u8)) (hc : P.cellsOf e = 1)
    (h : DataW.trod enc P W 0 (fun _ => true) true fuel t [v] = some x) : ∃ A c l, InBytes H W v x.1 A c l := by
  rcases open_ints ht he hc h with ⟨hv, rfl⟩ | ⟨a, len, cap, zs, hv, -, hl, hm, hz, rfl, hcell, hwf⟩
  · obtain rfl : v = .slice none 0 0 := by simpa using hv
    exact ⟨none, 0, [], rfl, Nat.le_refl _, Nat.zero_le _, Rd.nil _ _ _, Or.inl ⟨rfl, rfl⟩⟩
  · obtain rfl : v = .slice (some a) len cap := by simpa using hv
    simp only [if_true] at hz
    have hlen : ((zs.take len).map fun n => UInt8.ofNat n.toNat).length = len := by rw [List.length_map, List.length_take]; omega
    refine ⟨some a, cap, (zs.take len).map fun n => UInt8.ofNat n.toNat, by rw [hlen], by rw [hlen]; exact hl, by simpa [maxLen] using hm, ⟨by rw [bv_length], fun h0 => ?_⟩, Or.inr ⟨_, _, rfl, ?_⟩⟩
    · rw [hlen] at h0
      have key : ∀ j u, (bv ((zs.take len).map fun n => UInt8.ofNat n.toNat))[j]? = some u → W.cell? (a.add j) = some u := by
        intro j u hu
        have hj : j < len := by
          have := (List.getElem?_eq_some_iff.1 hu).1
          rw [bv_length, hlen] at this
          exact this
        have hjz : j < zs.length := by omega
        rw [hcell j hjz]
        unfold bv at hu
        rw [List.map_map, List.getElem?_map, List.getElem?_take, if_pos hj, List.getElem?_eq_getElem hjz] at hu
        have hw := wf_u8 (hwf zs[j] (List.getElem_mem hjz))
        have hn : ((UInt8.ofNat (zs[j]).toNat).toNat : Int) = zs[j] := by rw [UInt8.toNat_ofNat']; omega
        have hu2 : Value.int .u8 (((UInt8.ofNat (zs[j]).toNat).toNat : Nat) : Int) = u := Option.some.inj hu
        rw [← hu2, hn]
        simp [List.getD, hjz]
      have h00 : 0 < (bv ((zs.take len).map fun n => UInt8.ofNat n.toNat)).length := by rw [bv_length, hlen]; exact h0
      have hc0 := key 0 _ (List.getElem?_eq_getElem h00)
      refine ⟨a, rfl, ?_, key⟩
      have := lt_of_cell hc0
      rwa [block_add] at this
    · simp [lits]; omega

theorem open_bytes {r : Reach} {b0 : Nat} {t e : TypeId} {v : Value} {d : DataW H} {p : List MemPlace} (ht : P.underlying t = some (.slice e)) (he : P.underlying e = some (.int .u8)) (hc : P.cellsOf e = 1)
    (hval : Value.okWide P W r b0 t v) (h : DataW.Trod enc P W 0 (fun _ => true) true t v d p) : ∃ A c l, InBytes H W v d A c l := by
  obtain ⟨a, len, cap, rfl⟩ := okWide_slice ht hval
  obtain ⟨fuel, hf⟩ := h
  exact open_bytes1 ht he hc hf

/-- TEXTS THAT CAME IN. -/
def InStrs (H : Type) (W : World) (v : Value) (d : DataW H) (A : Option Addr) (c : Nat) (L : List ByteArray) : Prop :=
  v = .slice A L.length c ∧ L.length ≤ c ∧ c ≤ 9223372036854775807 ∧ Rd W W.heap.size A L.length (sv L) ∧ ((d = .nil ∧ L = []) ∨ ∃ sp, d = .slice (strs L) sp ∧ L.length + sp.length = c)

theorem open_strs {r : Reach} {b0 : Nat} {t e : TypeId} {v : Value} {d : DataW H} {p : List MemPlace} (ht : P.underlying t = some (.slice e)) (he : P.underlying e = some .string) (hc : P.cellsOf e = 1)
    (hval : Value.okWide P W r b0 t v) (h : DataW.Trod enc P W 0 (fun _ => true) true t v d p) : ∃ A c L, InStrs H W v d A c L := by
  obtain ⟨a', len', cap', rfl⟩ := okWide_slice ht hval
  obtain ⟨fuel, hf⟩ := h
  rcases open_strings ht he hc hf with ⟨hv, hx⟩ | ⟨a, len, cap, ss, hv, -, hl, hm, hz, hx, hcell, -⟩
  · simp only [Value.cells, List.cons.injEq, Value.slice.injEq, and_true] at hv
    obtain ⟨rfl, rfl, rfl⟩ := hv
    simp only [Prod.mk.injEq] at hx
    obtain ⟨rfl, -⟩ := hx
    exact ⟨none, 0, [], rfl, Nat.le_refl _, Nat.zero_le _, Rd.nil _ _ _, Or.inl ⟨rfl, rfl⟩⟩
  · simp only [Value.cells, List.cons.injEq, Value.slice.injEq, and_true] at hv
    obtain ⟨rfl, rfl, rfl⟩ := hv
    simp only [Prod.mk.injEq] at hx
    obtain ⟨rfl, -⟩ := hx
    simp only [if_true] at hz
    have hlen : (ss.take len').length = len' := by rw [List.length_take]; omega
    refine ⟨some a, cap', ss.take len', by rw [hlen], by rw [hlen]; exact hl, by simpa [maxLen] using hm, ⟨by rw [sv_length], fun h0 => ?_⟩, Or.inr ⟨_, rfl, ?_⟩⟩
    · rw [hlen] at h0
      have key : ∀ j u, (sv (ss.take len'))[j]? = some u → W.cell? (a.add j) = some u := by
        intro j u hu
        have hj : j < len' := by
          have := (List.getElem?_eq_some_iff.1 hu).1
          rw [sv_length, hlen] at this
          exact this
        have hjz : j < ss.length := by omega
        rw [hcell j hjz]
        unfold sv at hu
        rw [List.getElem?_map, List.getElem?_take, if_pos hj, List.getElem?_eq_getElem hjz] at hu
        rw [← Option.some.inj hu]
        simp [List.getD, hjz]
      have h00 : 0 < (sv (ss.take len')).length := by rw [sv_length, hlen]; exact h0
      have hc0 := key 0 _ (List.getElem?_eq_getElem h00)
      refine ⟨a, rfl, ?_, key⟩
      have := lt_of_cell hc0
      rwa [block_add] at this
    · simp [strs]; omega

/-- How many bytes the row lets come in. -/
theorem bytes_cap {ts : List TypeId} {ds : List (DataW H)} {v : Value} {d : DataW H} {A : Option Addr} {c : Nat} {l : List UInt8} (h : (DataW.weightsEach P ts ds).all (· ≤ reachBytes) = true) (j : Nat) {t e : TypeId} (ht : ts[j]? = some t) (hd : ds[j]? = some d)
    (hu : P.underlying t = some (.slice e)) (hb : P.bytesOf e = 1) (hin : InBytes H W v d A c l) : c ≤ 140737488351232 := by
  rcases hin.2.2.2.2 with ⟨-, rfl⟩ | ⟨es, sp, rfl, hc⟩
  · exact Nat.zero_le _
  · have h1 := sized_slice h ht hd hu
    have h2 : reachBytes = 140737488351232 := by decide
    rw [h2, hb, Nat.mul_one, hc] at h1
    exact h1
end
end Go.Proofs.Ytjgegggcbjecbaa
