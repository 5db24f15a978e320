/- The contracts of List, of the program and of the document's answer. -/
import Derived.Test.YtlgkckokcednaaaPutText
import Derived.Deep.RegionWith
namespace Go.Proofs.Ytlgkckokcednaaa
open Go Go.RowKit

/-- Texts as lists of bytes. -/
def tl (L : List ByteArray) : List (List UInt8) := L.map fun s => s.data.toList
theorem tl_length (L : List ByteArray) : (tl L).length = L.length := List.length_map _
theorem tl_append (L M : List ByteArray) : tl (L ++ M) = tl L ++ tl M := List.map_append

/-- The string at a place. -/
theorem Rd.strAt {w : World} {B : Nat} {A : Option Addr} {L : List ByteArray} {k : Nat} (h : Rd w B A L.length (sv L)) (hk : k < L.length) :
    ∃ ad s, A = some ad ∧ L[k]? = some s ∧ w.cell? (ad.add k) = some (.string s) := by
  obtain ⟨ad, u, hA, -, hu, hc⟩ := h.spot hk
  refine ⟨ad, L[k], hA, List.getElem?_eq_getElem hk, ?_⟩
  rw [hc]
  unfold sv at hu
  rw [List.getElem?_map, List.getElem?_eq_getElem hk] at hu
  exact congrArg some (Option.some.inj hu).symm

theorem take_snoc' {α : Type} {l : List α} {k : Nat} {c : α} (h : l[k]? = some c) : l.take (k + 1) = l.take k ++ [c] := by
  obtain ⟨hl, rfl⟩ := List.getElem?_eq_some_iff.1 h
  exact List.take_succ_eq_append_getElem hl

/-- The bytes of the first texts of a list. -/
def pre (L : List ByteArray) (k : Nat) : List UInt8 := Wi.texts (tl (L.take k))
theorem pre_zero (L : List ByteArray) : pre L 0 = [] := rfl
theorem pre_succ {L : List ByteArray} {k : Nat} {s : ByteArray} (h : L[k]? = some s) : pre L (k + 1) = pre L k ++ Wi.text s.data.toList := by
  unfold pre
  rw [take_snoc' h, tl_append]
  exact Wi.texts_snoc _ _
theorem pre_all (L : List ByteArray) : Wi.list (tl L) = Wi.num L.length ++ pre L L.length := by
  unfold pre Wi.list
  rw [tl_length, List.take_length]
theorem pre_le {L : List ByteArray} {k : Nat} : (Wi.num L.length).length + (pre L k).length ≤ (Wi.list (tl L)).length := by
  rw [pre_all, List.length_append]
  have h1 : L = L.take k ++ L.drop k := (List.take_append_drop k L).symm
  have h2 : (pre L L.length).length = (pre L k).length + (Wi.texts (tl (L.drop k))).length := by
    have key : ∀ a b : List (List UInt8), (Wi.texts (a ++ b)).length = (Wi.texts a).length + (Wi.texts b).length := by
      intro a b
      induction a with
      | nil => simp [Wi.texts]
      | cons s r ih => simp [Wi.texts, ih]; omega
    unfold pre
    rw [List.take_length]
    conv => lhs; rw [h1, tl_append]
    exact key _ _
  omega

set_option maxRecDepth 100000 in
set_option maxHeartbeats 2000000 in
theorem list_any (A : Option Addr) (c : Nat) (L : List ByteArray) (w : World) (hr : Rd w w.heap.size A L.length (sv L)) (h : (Wi.list (tl L)).length + 9 ≤ 140737488355328) :
    Calls Try.prog 25 #[.slice A L.length c] w (Got (Wi.list (tl L)) w) := by
  obtain ⟨i0, hi, hz0, hz1, hz2⟩ := info_parts infoU8
  have hall := pre_all L
  have hlen : (Wi.list (tl L)).length = (Wi.num L.length).length + (pre L L.length).length := by rw [hall, List.length_append]
  have h9 := Wi.num_pos L.length
  have hL : L.length ≤ (pre L L.length).length := by
    have key : ∀ (k : Nat), k ≤ L.length → k ≤ (pre L k).length := by
      intro k
      induction k with
      | zero => intro _; exact Nat.zero_le _
      | succ k ih =>
        intro hk
        rw [pre_succ (List.getElem?_eq_getElem hk), List.length_append, Wi.text_length]
        have := Wi.num_pos (L[k].data.toList.length)
        have := ih (by omega)
        omega
    exact key _ (Nat.le_refl _)
  have hsz : L.length < 140737488355328 := by omega
  have C := Lib.hid (size_any L.length w (by omega))
  have hple : ∀ k, (Wi.num L.length).length + (pre L k).length ≤ (Wi.list (tl L)).length := fun k => pre_le
  have HA := Lib.hid hall
  obtain ⟨T, hT⟩ : ∃ T, T = Wi.list (tl L) := ⟨_, rfl⟩
  obtain ⟨N, hN⟩ : ∃ N, N = Wi.num L.length := ⟨_, rfl⟩
  rw [← hT] at HA hlen h hple
  rw [← hN] at HA hlen h9 C hple
  rw [← hT]
  have HN := Lib.hid hN
  clear hT hall hN
  have HP := Lib.hid hple
  have HR := Lib.hid hr
  have HLN := Lib.hid hlen
  clear hple hr
  go_enter Try.func25, Try.ntmps25
  go_wp2_with fail
  refine C.out.mono ?_; rintro e w' ⟨rfl, rfl⟩
  go_wp2_with fail
  go_loop [3, 14] (fun a i => ∃ k : Nat, k ≤ L.length ∧ i = .int .i64 (k : Int) ∧ a = .int .i64 ((N.length : Int) + ((pre L k).length : Int))) (fun _ i => L.length - (intOf i).toNat)
  case atStart => exact ⟨0, Nat.zero_le _, rfl, by rw [pre_zero]; rfl⟩
  case round =>
    obtain ⟨k, hk, rfl, rfl⟩ := hrel
    have hp := HP.out k
    by_cases hlt : k < L.length
    · obtain ⟨ad, s, rfl, hs, hcell⟩ := HR.out.strAt hlt
      have hp1 := HP.out (k + 1)
      have hps : (pre L (k + 1)).length = (pre L k).length + (Wi.text s.data.toList).length := by rw [pre_succ hs, List.length_append]
      have hts := text_size s
      have CT := Lib.hid (textSize_any s w (by omega))
      have HPS := Lib.hid hps
      have hb1 : (N.length : Int) + ((pre L k).length : Int) + ((Wi.text s.data.toList).length : Int) ≤ 140737488355400 := by omega
      generalize Wi.text s.data.toList = X at *
      clear hs hps hts
      go_wp2_with fail
      refine CT.out.mono ?_; rintro e w' ⟨rfl, rfl⟩
      go_wp2_with fail
      go_round
      case rel => exact ⟨k + 1, by omega, by go_num, by rw [HPS.out]; go_num⟩
      case measure => simp [intOf]; omega
    · obtain rfl : k = L.length := by omega
      have he : ((N.length : Int) + ((pre L L.length).length : Int)) = (T.length : Int) := by have := HLN.out; omega
      rw [he]
      obtain ⟨w1, hmk, ho, hg⟩ := run_make_own (P := Try.prog) w w.heap.size 22 5 i0 _ 1 Try.underlying22 hi hz0 hz1 .i64 .i64 T.length (by rw [hz2]; omega) (by unfold maxLen; omega) (Nat.le_refl _)
      have hb1 : Below w.heap.size w w1 := (Below.refl _ _).grown hg (Nat.le_refl _) (fun k hk => by cases hk)
      have CP := Lib.hid (putNum_any _ 0 w.heap.size [] L.length w1 ho hb1.size (by omega) (by omega))
      rw [← HN.out] at CP
      clear he hlen
      go_wp2_with fail
      refine CP.out.mono ?_; rintro e w2 ⟨v, rfl, ho2, hb2⟩
      rw [Nat.zero_add, List.nil_append] at ho2
      have hB2 := hb1.trans hb2
      go_wp2_with fail
      go_loopw [6, 30] (fun b i wr => ∃ k : Nat, k ≤ L.length ∧ i = .int .i64 (k : Int) ∧ wr.ownsRow w.heap.size 5 1 b (N.length + (pre L k).length) (bv N ++ bv (pre L k)) ∧ Below w.heap.size w wr) (fun _ i _ => L.length - (intOf i).toNat)
      case atStart => exact ⟨0, Nat.zero_le _, rfl, by simpa [pre_zero, bv] using ho2, hB2⟩
      case round =>
        obtain ⟨k, hk, rfl, hok, hbk⟩ := hrel
        have hp := HP.out k
        have hszk := hbk.size
        by_cases hlt : k < L.length
        · obtain ⟨ad, s, rfl, hs, hcell⟩ := (HR.out.below hbk).strAt hlt
          have hp1 := HP.out (k + 1)
          have hps : (pre L (k + 1)).length = (pre L k).length + (Wi.text s.data.toList).length := by rw [pre_succ hs, List.length_append]
          have CT := Lib.hid (putText_any _ _ w.heap.size _ s wr hok hszk (by have := HLN.out; have := HP.out (k + 1); omega))
          have HPS := Lib.hid hps
          have HPP := Lib.hid (pre_succ hs)
          clear hs hps
          go_wp2_with fail
          refine CT.out.mono ?_; rintro e w3 ⟨v3, rfl, ho3, hb3⟩
          go_wp2_with fail
          go_roundw
          case rel => exact ⟨k + 1, by omega, by go_num, by rw [HPS.out, HPP.out, bv_append, ← List.append_assoc, ← Nat.add_assoc]; exact ho3, hbk.trans hb3⟩
          case measure => simp [intOf]; omega
        · obtain rfl : k = L.length := by omega
          go_wp2_with fail
          go_ret
          rw [← bv_append, ← HA.out, ← List.length_append, ← HA.out] at hok
          obtain ⟨A2, c2, hv, hc2, -, -⟩ := own_form hok
          subst hv
          exact ⟨A2, c2, rfl, hc2, Rd.of_own hok, hbk⟩
end Go.Proofs.Ytlgkckokcednaaa
