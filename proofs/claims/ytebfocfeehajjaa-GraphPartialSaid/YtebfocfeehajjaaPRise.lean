/- The program's rising.Are. -/
import Derived.Test.YtebfocfeehajjaaRowG
import Derived.Test.YtebfocfeehajjaaPLess
namespace Go.Proofs.Ytebfocfeehajjaa
open Go Go.RowKit

theorem rises_bad {less : List UInt8 → List UInt8 → Bool} : ∀ (L : List (List UInt8)) (i : Nat) (a b : List UInt8), L[i]? = some a → L[i + 1]? = some b → less a b = false → Cm.rises less L = false
  | [], i, a, b, h, _, _ => by cases h
  | [x], i, a, b, _, h, _ => by simp at h
  | x :: y :: L, 0, a, b, h1, h2, h => by
    obtain rfl : x = a := by simpa using h1
    obtain rfl : y = b := by simpa using h2
    unfold Cm.rises; rw [h]; rfl
  | x :: y :: L, i + 1, a, b, h1, h2, h => by
    have := rises_bad (y :: L) i a b (by simpa using h1) (by simpa using h2) h
    unfold Cm.rises; rw [this, Bool.and_false]
theorem rises_all {less : List UInt8 → List UInt8 → Bool} : ∀ (L : List (List UInt8)), (∀ i a b, L[i]? = some a → L[i + 1]? = some b → less a b = true) → Cm.rises less L = true
  | [], _ => rfl
  | [_], _ => rfl
  | x :: y :: L, h => by
    have h1 := h 0 x y rfl rfl
    have h2 := rises_all (y :: L) (fun i a b ha hb => h (i + 1) a b (by simpa using ha) (by simpa using hb))
    unfold Cm.rises; rw [h1, h2]; rfl
set_option maxRecDepth 100000 in
set_option maxHeartbeats 4000000 in
theorem rise_any (L : List (List UInt8)) (A : Option Addr) (c : Nat) (w : World) (hR : Rd w w.heap.size A (L.length * 32) (rows bv L)) (hD : ∀ s ∈ L, s.length = 32) (hl : L.length ≤ 4611686018427387904) :
    Calls Try.prog 61 #[.slice A L.length c] w (Ret (.bool (Cm.rises Tx.less L)) w) := by
  have HR := Lib.hid hR
  have HD := Lib.hid hD
  clear hR hD
  go_enter Try.func61, Try.ntmps61
  go_wp2_with fail
  go_loopw [3] (fun iv wr => ∃ i : Nat, iv = .int .i64 ((i : Int) + 1) ∧ (i = 0 ∨ i + 1 ≤ L.length) ∧ Hid (∀ j a b, j < i → L[j]? = some a → L[j + 1]? = some b → Tx.less a b = true) ∧ Below w.heap.size w wr) (fun iv _ => L.length + 1 - (intOf iv).toNat)
  case atStart => exact ⟨0, rfl, .inl rfl, (fun j a b h => absurd h (Nat.not_lt_zero _)), Below.refl _ _⟩
  case round =>
    obtain ⟨i, rfl, hi, HUP, hB⟩ := hrel
    have HB := Lib.hid hB
    clear hB
    by_cases hlt : i + 1 < L.length
    · have hltI : (i : Int) + 1 < (L.length : Int) := by omega
      have hiI : (i : Int) < (L.length : Int) := by omega
      have hn1 : 0 ≤ (i : Int) + 1 := by omega
      have ht1 : ((i : Int) + 1).toNat = i + 1 := by omega
      have hw1 : IntKind.i64.wrap ((i : Int) + 1 - 1) = (i : Int) := by rw [IntWalk.i64_in _ (by omega)]; omega
      have hw2 : IntKind.i64.wrap ((i : Int) + 1 + 1) = ((i + 1 : Nat) : Int) + 1 := by rw [IntWalk.i64_in _ (by omega)]; omega
      obtain ⟨pa, hpa⟩ : ∃ a, L[i]? = some a := ⟨_, List.getElem?_eq_getElem (by omega)⟩
      obtain ⟨pb, hpb⟩ : ∃ a, L[i + 1]? = some a := ⟨_, List.getElem?_eq_getElem hlt⟩
      have hla := HD.out pa (List.mem_of_getElem? hpa)
      have hlb := HD.out pb (List.mem_of_getElem? hpb)
      obtain ⟨ad, hA, hbl, hca⟩ := (HR.out.later HB.out).elem (by decide) (fun s hs => by rw [bv_length]; exact HD.out s hs) hpa
      obtain ⟨ad', hA', -, hcb⟩ := (HR.out.later HB.out).elem (by decide) (fun s hs => by rw [bv_length]; exact HD.out s hs) hpb
      have hAe : ad = ad' := by rw [hA] at hA'; exact Option.some.inj hA'
      subst hAe
      subst hA
      have HCA := Lib.hid (fun u : Grw wr => grw_cells u.prop (ad := ad.add (i * 32)) (by rw [block_add]; exact hbl) hca)
      have HCB := Lib.hid (fun u : Grw wr => grw_cells u.prop (ad := ad.add ((i + 1) * 32)) (by rw [block_add]; exact hbl) hcb)
      have HLA := Lib.hid (show (Try.prog.info? 47).map (·.size) = some (bv pa).length by rw [bv_length, hla]; exact infoD32)
      have HLB := Lib.hid (show (Try.prog.info? 47).map (·.size) = some (bv pb).length by rw [bv_length, hlb]; exact infoD32)
      have HLS := Lib.hid (fun w => pless_any pa pb w hla hlb)
      have HPA := Lib.hid hpa
      have HPB := Lib.hid hpb
      clear hca hcb hla hlb hpa hpb hA' hi
      go_wp2_with fail
      refine wp_region_grow (by kernel_rfl) (by kernel_rfl) ?_
      go_big_quiet_step (fail)
      go_big_quiet_step (fail)
      go_big_quiet_step (fail)
      go_big_quiet_step (fail)
      refine quiet_load_any (by rfl) 47 (.tmp 13) rfl (ad.add (i * 32)) rfl (bv pa) HCA.out _ Try.underlying47 rfl HLA.out ?_; go_simp
      go_big_quiet_step (fail)
      go_big_quiet_step (fail)
      go_big_quiet_step (fail)
      refine quiet_load_any (by rfl) 47 (.tmp 17) rfl (ad.add ((i + 1) * 32)) rfl (bv pb) HCB.out _ Try.underlying47 rfl HLB.out ?_; go_simp
      go_big_quiet_step ((go_at_call 64; exact grow_call (HLS.out _)))
      go_big_quiet_step (fail)
      refine wpQuiet_nil ?_
      first | (intro _ hw'; obtain ⟨u, hw''⟩ := hw'; subst hw'') | intro u
      have HBu := Lib.hid (HB.out.trans (u.prop.mono HB.out.size))
      by_cases hls : Tx.less pa pb = true
      · rw [hls]
        go_wp2_with fail
        go_roundw
        case rel =>
          refine ⟨i + 1, by go_num, .inr (by omega), Lib.hid (fun j a b hj h1 h2 => ?_), HBu.out⟩
          rcases Nat.lt_or_ge j i with h | h
          · exact HUP.out j a b h h1 h2
          · obtain rfl : j = i := by omega
            rw [HPA.out] at h1
            rw [HPB.out] at h2
            obtain rfl := Option.some.inj h1
            obtain rfl := Option.some.inj h2
            exact hls
        case measure => simp [intOf] <;> omega
      · have hlf : Tx.less pa pb = false := by simpa using hls
        have HRB := Lib.hid (rises_bad L i pa pb HPA.out HPB.out hlf)
        rw [hlf]
        go_wp2_with fail
        go_ret
        exact ⟨by rw [HRB.out]; rfl, HBu.out⟩
    · have hltI : ¬ (i : Int) + 1 < (L.length : Int) := by omega
      have HRA := Lib.hid (rises_all (less := Tx.less) L (fun j a b h1 h2 => HUP.out j a b (by have := (List.getElem?_eq_some_iff.1 h2).1; omega) h1 h2))
      clear HUP
      go_wp2_with fail
      go_ret
      exact ⟨by rw [HRA.out]; rfl, HB.out⟩

end Go.Proofs.Ytebfocfeehajjaa
