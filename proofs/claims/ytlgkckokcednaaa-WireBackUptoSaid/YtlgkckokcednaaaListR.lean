/- The contracts of the document's List, and of Same. -/
import Derived.Test.YtlgkckokcednaaaList
import Derived.BigQuiet
import Derived.Deep.QuietTactic
namespace Go.Proofs.Ytlgkckokcednaaa
open Go Go.RowKit

set_option maxRecDepth 100000 in
set_option maxHeartbeats 2000000 in
theorem refList_any (A : Option Addr) (c : Nat) (L : List ByteArray) (w : World) (hr : Rd w w.heap.size A L.length (sv L)) (hs : ∀ s ∈ L, s.size ≤ 9223372036854775798) (h : (Wi.list (tl L)).length ≤ 9223372036854775000) :
    Calls Try.prog 26 #[.slice A L.length c] w (Ret (.string (sB (Wi.list (tl L)))) w) := by
  have hall := pre_all L
  have hple : ∀ k, (Wi.num L.length).length + (pre L k).length ≤ (Wi.list (tl L)).length := fun k => pre_le
  have hLL : L.length < 9223372036854775807 := by
    have key : ∀ (k : Nat), k ≤ L.length → k ≤ (pre L k).length := by
      intro k
      induction k with
      | zero => intro _; exact Nat.zero_le _
      | succ k ih =>
        intro hk
        rw [pre_succ (List.getElem?_eq_getElem hk), List.length_append, Wi.text_length]
        have := Wi.num_pos (L[k].data.toList.length)
        have := ih (by omega)
        omega
    have := key _ (Nat.le_refl _)
    have := hple L.length
    omega
  have C := Lib.hid (refNum_any L.length L.length w (Nat.le_refl _) (by omega))
  have HA := Lib.hid (show sB (Wi.list (tl L)) = sB (Wi.num L.length) ++ sB (pre L L.length) by rw [hall, sB_append])
  have HP := Lib.hid hple
  have hN : (sB (Wi.num L.length)).size = (Wi.num L.length).length := sB_size _
  obtain ⟨N, eN⟩ : ∃ N, N = sB (Wi.num L.length) := ⟨_, rfl⟩
  obtain ⟨T, eT⟩ : ∃ T, T = sB (Wi.list (tl L)) := ⟨_, rfl⟩
  rw [← eN, ← eT] at HA
  rw [← eN] at C hN
  rw [← eT]
  have hNs : ∀ k, N.size + (pre L k).length ≤ 9223372036854775000 := fun k => by have := hple k; omega
  have HNS := Lib.hid hNs
  have HR := Lib.hid hr
  have HS := Lib.hid hs
  clear hall hple hr hs hN eN eT hNs
  go_enter Try.func26, Try.ntmps26
  go_wp2_with fail
  refine C.out.mono ?_; rintro e w1 ⟨rfl, hb1⟩
  go_wp2_with fail
  go_loopw [3, 4] (fun b i wr => ∃ (k : Nat) (S : ByteArray), k ≤ L.length ∧ i = .int .i64 (k : Int) ∧ b = .string S ∧ S = N ++ sB (pre L k) ∧ S.size ≤ 9223372036854775000 ∧ Below w.heap.size w wr) (fun _ i _ => L.length - (intOf i).toNat)
  case atStart => exact ⟨0, _, Nat.zero_le _, rfl, rfl, by rw [pre_zero]; exact (show N ++ ByteArray.empty = N by simp).symm, by have := HNS.out 0; rw [pre_zero] at this; simpa using this, hb1⟩
  case round =>
    obtain ⟨k, S, hk, rfl, rfl, hS, hSs, hbk⟩ := hrel
    have HSS := Lib.hid hS
    clear hS
    by_cases hlt : k < L.length
    · obtain ⟨ad, s, rfl, hs, hcell⟩ := (HR.out.below hbk).strAt hlt
      have CT := Lib.hid (refText_any s wr (HS.out s (List.mem_of_getElem? hs)))
      have HPP := Lib.hid (show N ++ sB (pre L (k + 1)) = S ++ sB (Wi.text s.data.toList) by rw [pre_succ hs, sB_append, HSS.out, ByteArray.append_assoc])
      have hsum : (S.size : Int) + ((sB (Wi.text s.data.toList)).size : Int) ≤ 9223372036854775000 := by
        have h1 := HNS.out (k + 1)
        have h2 : (N ++ sB (pre L (k + 1))).size = N.size + (pre L (k + 1)).length := by rw [ByteArray.size_append, sB_size]
        rw [HPP.out, ByteArray.size_append] at h2
        omega
      generalize sB (Wi.text s.data.toList) = X at *
      clear hs
      go_wp2_with fail
      refine CT.out.mono ?_; rintro e w2 ⟨rfl, hb2⟩
      go_wp2_with fail
      go_roundw
      case rel => exact ⟨k + 1, _, by omega, by go_num, rfl, HPP.out.symm, by rw [ByteArray.size_append]; omega, hbk.trans (hb2.mono hbk.size)⟩
      case measure => simp [intOf]; omega
    · obtain rfl : k = L.length := by omega
      go_wp2_with fail
      go_ret
      exact ⟨by rw [HA.out, ← HSS.out]; rfl, hbk⟩

/-- Whether two lists are the same. -/
def sameB (L M : List ByteArray) : Bool := decide (L = M)

set_option maxRecDepth 100000 in
set_option maxHeartbeats 2000000 in
theorem same_any (A A2 : Option Addr) (c c2 B : Nat) (L M : List ByteArray) (w : World) (hr : Rd w B A L.length (sv L)) (hr2 : Rd w B A2 M.length (sv M)) (hm : M.length < 9223372036854775807) :
    Calls Try.prog 27 #[.slice A L.length c, .slice A2 M.length c2] w fun e w' => e = .returned (.bool (sameB L M)) ∧ ∃ n, w' = w.drewN n := by
  by_cases hl : L.length = M.length
  · have HR := Lib.hid hr
    have HR2 := Lib.hid hr2
    have HL := Lib.hid hl
    have hl1 : ((L.length : Int) != (M.length : Int)) = false := by rw [bne_eq_false_iff_eq]; omega
    have hle : L.length ≤ M.length := by omega
    clear hr hr2 hl
    go_enter Try.func27, Try.ntmps27
    go_wp2_with fail
    go_loopw [5] (fun i wr => ∃ k n : Nat, k ≤ L.length ∧ i = .int .i64 (k : Int) ∧ L.take k = M.take k ∧ wr = w.drewN n) (fun i _ => L.length - (intOf i).toNat)
    case atStart => exact ⟨0, 0, Nat.zero_le _, rfl, rfl, rfl⟩
    case round =>
      obtain ⟨k, n, hk, rfl, ht, rfl⟩ := hrel
      have HT := Lib.hid ht
      clear ht
      by_cases hlt : k < L.length
      · obtain ⟨ad, s, rfl, hs, hcell⟩ := HR.out.strAt hlt
        obtain ⟨ad2, s2, rfl, hs2, hcell2⟩ := HR2.out.strAt (show k < M.length by omega)
        have hk0 : (0 : Int) ≤ (k : Int) := by omega
        have hk1 : (k : Int) < (L.length : Int) := by omega
        have hk2 : (k : Int) < (M.length : Int) := by omega
        go_wp2_with fail
        go_quiet (fail)
        go_wp2_with fail
        · have hd : (!s.toList == s2.toList) = true := by assumption
          have hne : s ≠ s2 := by
            rintro rfl
            simp at hd
          have hB : sameB L M = false := decide_eq_false (fun e => hne (by
            rw [e, hs2] at hs
            exact (Option.some.inj hs).symm))
          go_ret
          exact ⟨by rw [hB]; rfl, n + nq, World.drewN_drewN _ _ _⟩
        · have hd : (!s.toList == s2.toList) = false := by assumption
          have he : s = s2 := by
            have h1 : s.toList = s2.toList := by simpa using hd
            rw [ByteArray.toList_eq, ByteArray.toList_eq] at h1
            exact ByteArray.ext (Array.toList_inj.1 h1)
          have ht2 : L.take (k + 1) = M.take (k + 1) := by rw [take_snoc' hs, take_snoc' hs2, HT.out, he]
          have HT2 := Lib.hid ht2
          clear ht2 he hd
          go_roundw
          case rel => exact ⟨k + 1, _, by omega, by go_num, HT2.out, rfl⟩
          case measure => simp [intOf]; omega
      · obtain rfl : k = L.length := by omega
        have hB : sameB L M = true := decide_eq_true (by
          have h := HT.out
          rw [List.take_length] at h
          rw [h]
          conv => rhs; rw [← List.take_length (l := M)]
          rw [HL.out])
        go_wp2_with fail
        go_ret
        exact ⟨by rw [hB]; rfl, _, rfl⟩
  · have hl1 : ((L.length : Int) != (M.length : Int)) = true := by rw [bne_iff_ne]; omega
    have hB : sameB L M = false := decide_eq_false (fun e => hl (by rw [e]))
    clear hl
    go_enter Try.func27, Try.ntmps27
    go_wp2
    go_ret
    exact ⟨by rw [hB]; rfl, 0, rfl⟩
end Go.Proofs.Ytlgkckokcednaaa
