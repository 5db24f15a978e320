/- The walk of DiffApplies. -/
import Derived.Test.YtmanafhdmijfeaaLCost
namespace Go.Proofs.Ytmanafhdmijfeaa
open Go Go.RowKit

theorem resA_form (r : Except Nat (List UInt8)) : ∃ (s : List UInt8) (e : Int), resA r = .tuple #[.string (sB s), .int .i64 e] := by
  cases r with
  | ok s => exact ⟨s, 0, rfl⟩
  | error e => exact ⟨[], (e : Int), rfl⟩

set_option maxRecDepth 100000 in
set_option maxHeartbeats 4000000 in
theorem diffApplies_walk (a : ByteArray) (A : Option Addr) (c : Nat) (L : List Ed) (w : World) (hal : a.size ≤ 4611686018427387904) (h : Rd w w.heap.size A (L.length * 3) (ev L)) (hl : L.length * 32 ≤ 140737488351232) (ht : ∀ x ∈ L, x.text.length ≤ 4611686018427387904) :
    Calls Try.prog 4 #[.string a, .slice A L.length c] w fun e w' => e = .returned (.bool true) ∧ Below w.heap.size w w' := by
  obtain ⟨i0, hi, hz0, hz1, hz2⟩ := info_parts infoEd
  obtain ⟨a', rfl⟩ : ∃ l, a = sB l := ⟨a.data.toList, rfl⟩
  rw [sB_size] at hal
  have H := Lib.hid h
  have HT := Lib.hid ht
  have hbk := build_kind 9
  have HR := Lib.hid (fun (w1 : World) (hb : Below w.heap.size w w1) => refApply_any a' A c L w1 (h.later hb) (by omega) ht hal)
  obtain ⟨s, e, hse⟩ := resA_form (applyS a' L)
  rw [hse] at HR
  have HSE := Lib.hid hse
  clear h ht hse
  go_enter Try.func4, Try.ntmps4
  go_wp2_with (first
    | (refine at_dst 12 rfl ?_; go_must (refine wp_appK _ 3 rfl (.tmp 10) (.tmp 11) 22 22 rfl w.heap.size 32 i0 _ 32 Try.underlying22 hi hz0 hz1 hz2 rfl (.slice (some ⟨w.heap.size, 0, none⟩) 0 0) 0 [] rfl (World.ownsRow_made w #[] 0 (Nat.le_refl _) (Nat.zero_le _) rfl) (.slice A L.length c) L.length (ev L) rfl ((H.out.below (below_alloc w _)).srcK (by decide) Try.underlying22 c (ev_one L)) (by unfold maxLen; omega) (by omega) (by simp) ?_); intro v1 w1 ho1 hg1 _; rw [Nat.zero_add, List.nil_append] at ho1; have hB1 : Below w.heap.size w w1 := (below_alloc w _).grown hg1 (by simp) (fun q hq => by cases hq; exact Nat.le_refl _); obtain ⟨A1, c1, hv1, -, -, -⟩ := own_form ho1; subst hv1; have HO1 := Lib.hid ho1; clear ho1 hg1)
    | (refine at_dst 15 rfl ?_; go_must (refine wp_appK _ 3 rfl (.tmp 12) (.tmp 14) 22 22 rfl w.heap.size 32 i0 _ 32 Try.underlying22 hi hz0 hz1 hz2 rfl (.slice A1 L.length c1) L.length (ev L) rfl (HO1.out.alloc _) (.slice (some ⟨w1.heap.size, 0, none⟩) 1 1) 1 (edCells ⟨9, 0, []⟩) rfl (new_srcK 3 Try.underlying22 w1 (edCells ⟨9, 0, []⟩) 1 1 32 (0, 0) rfl (ev_one [⟨9, 0, []⟩] · ·)) (by unfold maxLen; omega) (by omega) (by have := hB1.size; simp; omega) ?_); intro v2 w2 ho2 hg2 _; rw [ev_snoc] at ho2; have hB2 : Below w.heap.size w w2 := (hB1.alloc hB1.size _).grown hg2 (by have := hB1.size; simp; omega) (fun q hq => (HO1.out.lt q hq).1); obtain ⟨A2, c2, hv2, hcl, hcm, -⟩ := own_form ho2; subst hv2; obtain ⟨q, hq⟩ := own_some ho2 (by omega); subst hq; have HO2 := Lib.hid ho2; clear ho2 hg2))
  have hpre : ∀ (W : World), W.ownsRow w.heap.size 32 3 (.slice (some ⟨q, 0, none⟩) (L.length + 1) c2) (L.length + 1) (ev (L ++ [⟨9, 0, []⟩])) → Rd W W.heap.size (some ⟨q, 0, none⟩) (L.length * 3) (ev L) := fun W ho => by
    have h1 := (Rd.of_ownK ho).take (k := L.length * 3) (by omega)
    rwa [ev_append, List.take_append_of_le_length (by rw [ev_length]; exact Nat.le_refl _), List.take_of_length_le (by rw [ev_length]; exact Nat.le_refl _)] at h1
  have HP := Lib.hid hpre
  have hap := papply_any a' (some ⟨q, 0, none⟩) c2 L w2 (hpre w2 HO2.out) (by omega) ⟨by omega, by simpa [maxLen] using hcm⟩ HT.out hal
  rw [HSE.out] at hap
  have HAP := Lib.hid hap
  clear hap hpre
  refine HAP.out.mono ?_; rintro x w3 ⟨rfl, hb3⟩
  have hB3 := hB2.trans (hb3.mono hB2.size)
  have HO3 := Lib.hid (own_below HO2.out hb3)
  clear hb3 HAP
  go_wp2_with fail
  refine (HR.out w3 hB3).mono ?_; rintro x w4 ⟨rfl, hb4⟩
  have hB4 := hB3.trans (hb4.mono hB3.size)
  have HO4 := Lib.hid (own_below HO3.out hb4)
  have hsm := same_any (some ⟨q, 0, none⟩) A c2 c L L w4.heap.size w4.heap.size w4 (HP.out w4 HO4.out) (H.out.later hB4) (by omega)
  rw [show decide (L = L) = true from decide_eq_true rfl] at hsm
  have HS := Lib.hid hsm
  have e1 : ((sB s).toList == (sB s).toList) = true := beq_self_eq_true _
  have e2 : (e == e) = true := beq_self_eq_true _
  have p0 : w4.cell? ⟨q, L.length * 3, none⟩ = some (.int .i64 9) := (HO4.out.cellAt (L.length * 3 + 0) (by omega)).trans (ev_last rfl ⟨9, 0, []⟩ 0 (by omega))
  clear hsm hb4
  go_wp2_with fail
  refine HS.out.mono ?_; rintro x w5 ⟨rfl, n, rfl⟩
  go_wp2_with fail
  refine (alive_any _).mono ?_; rintro x w6 ⟨rfl, hb6⟩
  go_wp2_with fail
  go_ret
  exact ⟨rfl, (below_drewN hB4 n).trans (hb6.mono hB4.size)⟩
end Go.Proofs.Ytmanafhdmijfeaa
