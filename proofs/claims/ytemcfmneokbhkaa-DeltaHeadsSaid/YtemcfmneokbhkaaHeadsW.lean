/- DeltaHeads: a delta with some of its last bytes missing, or with one more, tells nothing. No conditions but the row's own. -/
import Derived.Test.YtemcfmneokbhkaaAppliesW
namespace Go.Proofs.Ytemcfmneokbhkaa
open Go Go.RowKit

theorem cut_mod (cut : Int) (k : Nat) (hk : 0 < k) (hb : k ≤ 140737488355328) : ∃ (x : Int) (j : Nat), j < k ∧ IntKind.i64.wrap (cut.tmod k + k) = x ∧ x.tmod k = j := by
  have h1 : cut.tmod k < k := Int.tmod_lt_of_pos cut (by omega)
  have h2 : -(k : Int) < cut.tmod k := Int.lt_tmod_of_pos cut (by omega)
  have h0 : 0 ≤ cut.tmod k + k := by omega
  refine ⟨cut.tmod k + k, ((cut.tmod k + k) % k).toNat, ?_, IntWalk.i64_in _ (by omega), ?_⟩
  · have h3 := Int.emod_lt_of_pos (cut.tmod k + k) (show (0 : Int) < k by omega)
    have h4 := Int.emod_nonneg (cut.tmod k + k) (show (k : Int) ≠ 0 by omega)
    omega
  · rw [Int.tmod_eq_emod_of_nonneg h0]
    have h4 := Int.emod_nonneg (cut.tmod k + k) (show (k : Int) ≠ 0 by omega)
    omega
theorem applyD_codes {base d : List UInt8} {e : Nat} (h : Dl.applyD base d = .error e) : e ≠ 0 := by
  unfold Dl.applyD at h
  split at h
  · simp only [Except.error.injEq] at h; omega
  · split at h
    · simp only [Except.error.injEq] at h; omega
    · split at h
      · simp only [Except.error.injEq] at h; omega
      · split at h
        · simp only [Except.error.injEq] at h; omega
        · split at h
          · simp only [Except.error.injEq] at h; omega
          · have := Dl.goD_codes _ _ _ _ (Nat.le_refl _) h
            omega
theorem applyD_pos {base d t : List UInt8} (h : Dl.applyD base d = .ok t) : 0 < d.length := by
  obtain ⟨hb, p1, size, p2, h1, -⟩ := Dl.applyD_ok h
  have := Dl.getNum_next h1
  omega

set_option maxRecDepth 100000 in
set_option maxHeartbeats 4000000 in
theorem deltaHeads_walk (A1 : Option Addr) (c1 : Nat) (base : List UInt8) (A2 : Option Addr) (c2 : Nat) (d : List UInt8) (cut : Int) (w : World) (h1 : Rd w w.heap.size A1 base.length (bv base)) (hl1 : base.length ≤ c1) (hm1 : c1 ≤ 140737488351232) (h2 : Rd w w.heap.size A2 d.length (bv d)) (hl2 : d.length ≤ c2) (hm2 : c2 ≤ 140737488351232) (_ : -9223372036854775808 ≤ cut ∧ cut ≤ 9223372036854775807) :
    Calls Try.prog 8 #[.slice A1 base.length c1, .slice A2 d.length c2, .int .i64 cut] w (Ret (.bool true) w) := by
  obtain ⟨i0, hi, hz0, hz1, hz2⟩ := info_parts infoU8
  have H1 := Lib.hid h1
  have H2 := Lib.hid h2
  have C1 := Lib.hid (papply_any A1 A2 c1 c2 base d w h1 h2 ⟨hl1, by omega⟩ ⟨hl2, by omega⟩ (by omega) (by omega))
  clear h1
  cases hap : Dl.applyD base d with
  | error e =>
    have he := applyD_codes hap
    have hbe : ((e : Int) != 0) = true := by rw [bne_zero]; exact decide_eq_true he
    rw [hap] at C1
    simp only [okL, errN] at C1
    clear hap h2
    go_enter Try.func8, Try.ntmps8
    go_wp2_with fail
    refine C1.out.mono ?_; rintro e' w1 ⟨v, rfl, ho, hb1⟩
    have HB1 := Lib.hid hb1
    clear ho hb1
    go_wp2_with fail
    refine (alive_any _).mono ?_; rintro e' w7 ⟨rfl, hb7⟩
    go_wp2_with fail
    go_ret
    exact ⟨rfl, HB1.out.trans (hb7.mono HB1.out.size)⟩
  | ok t =>
    have hd0 := applyD_pos hap
    obtain ⟨x, j, hj, hx1, hx2⟩ := cut_mod cut d.length hd0 (by omega)
    obtain ⟨e2, he2, htk⟩ := Dl.applyD_take hj hap
    have hmr := Dl.applyD_more (UInt8.ofNat j) hap
    have HTK := Lib.hid htk
    have HMR := Lib.hid hmr
    rw [hap] at C1
    simp only [okL, errN] at C1
    have hbd : ((d.length : Int) == 0) = false := by rw [beq_zero]; exact decide_eq_false (by omega)
    have hnz : ¬ (d.length : Int) = 0 := by omega
    have hbe : ((e2 : Int) != 0) = true := by rw [bne_zero]; exact decide_eq_true he2
    have hwb : IntKind.u8.wrap (j : Int) = ((UInt8.ofNat j).toNat : Int) := by rw [IntKind.wrap_u8, UInt8.toNat_ofNat']; omega
    obtain ⟨ad, -, hA, -⟩ := h2.spot hd0
    subst hA
    have hjI : (j : Int) ≤ (d.length : Int) := by omega
    have hj0 : 0 ≤ (j : Int) := by omega
    have hjc : (j : Int) ≤ (c2 : Int) := by omega
    have hjl : (d.take j).length = j := by rw [List.length_take]; omega
    have HJL := Lib.hid hjl
    obtain ⟨y, hy⟩ : ∃ y, y = UInt8.ofNat j := ⟨_, rfl⟩
    rw [← hy] at HMR hwb
    clear hap h2 htk hmr he2 hjl hy
    go_enter Try.func8, Try.ntmps8
    go_wp2_with fail
    refine C1.out.mono ?_; rintro e' w1 ⟨v, rfl, ho, hb1⟩
    have HB1 := Lib.hid hb1
    have hr1 := (H2.out.later hb1).take (k := j) (by omega)
    rw [← bv_take] at hr1
    have C2 := Lib.hid (fun (A : Option Addr) (hA : A = some ad) => papply_any A1 A c1 c2 base (d.take j) w1 (H1.out.later HB1.out) (by rw [HJL.out, hA]; exact hr1) ⟨hl1, by omega⟩ (by rw [HJL.out]; omega) (by omega) (by rw [HJL.out]; omega))
    rw [HTK.out, HJL.out] at C2
    simp only [okL, errN] at C2
    clear ho hb1 hr1
    go_wp2_with fail
    refine (C2.out _ rfl).mono ?_; rintro e' w2 ⟨v2, rfl, ho2, hb2⟩
    obtain ⟨A4, c4, hv, -, -, -⟩ := own_form ho2
    subst hv
    have HB2 := Lib.hid (HB1.out.trans (hb2.mono HB1.out.size))
    have HR2 := Lib.hid (H2.out.later HB2.out)
    clear ho2 hb2 C2
    go_wp2_with (first
      | (at_builtin; (refine wp_app _ rfl (.tmp 51) (.tmp 52) 22 22 rfl w2.heap.size 5 i0 _ 1 Try.underlying22 hi hz0 hz1 hz2 rfl (.slice (some ⟨w2.heap.size, 0, none⟩) 0 0) 0 [] rfl (World.ownsRow_made w2 #[] 0 (Nat.le_refl _) (Nat.zero_le _) rfl) (.slice (some ad) d.length c2) d.length (bv d) rfl ((HR2.out.alloc (Nat.le_refl _) _).src Try.underlying22 c2 (bv_one d)) (by unfold maxLen; omega) (by omega) (by simp) ?_); intro v1 w3 ho1 hg1 hat1; rw [Nat.zero_add, List.nil_append] at ho1; have hs1 : w2.heap.size + 1 ≤ w3.heap.size := (by have := hg1.size; simpa using this))
      | (at_builtin; go_must (refine wp_app _ rfl (.tmp 53) (.tmp 56) 22 22 rfl w2.heap.size 5 i0 _ 1 Try.underlying22 hi hz0 hz1 hz2 rfl v1 d.length (bv d) rfl (ho1.alloc _) _ 1 (bv [y]) rfl (new_src Try.underlying22 w3 (bv [y]) 1 1 5 (0, 0) rfl (bv_one [y])) (by unfold maxLen; omega) (by omega) (by simp; omega) ?_); intro v3 w4 ho3 hg3 hat3; obtain ⟨g3, c3, hv3, hn3, hm3⟩ := own_form' ho3 (by omega); subst hv3))
    have hb3 : Below w2.heap.size w2 w3 := ((Below.refl _ _).alloc (Nat.le_refl _) _).grown hg1 (by simp) (fun q hq => Nat.le_of_eq (Option.some.inj hq))
    have hb4 : Below w2.heap.size w2 w4 := (hb3.alloc (by omega) _).grown hg3 (by simp; omega) (fun q hq => (ho1.lt q hq).1)
    have HB4 := Lib.hid (HB2.out.trans (hb4.mono HB2.out.size))
    have hr3 := Rd.of_own ho3
    rw [← bv_append] at hr3
    have hdl : (d ++ [y]).length = d.length + 1 := by simp
    have C3 := Lib.hid (fun (A : Option Addr) (hA : A = some ⟨g3, 0, none⟩) => papply_any A1 A c1 c3 base (d ++ [y]) w4 (H1.out.later HB4.out) (by rw [hdl, hA]; exact hr3) ⟨hl1, by omega⟩ (by rw [hdl]; exact ⟨hn3, hm3⟩) (by omega) (by rw [hdl]; omega))
    rw [HMR.out, hdl] at C3
    simp only [okL, errN] at C3
    clear ho1 hg1 hat1 ho3 hg3 hat3 hb3 hb4 hr3 hdl
    refine (C3.out _ rfl).mono ?_; rintro e' w5 ⟨v5, rfl, ho5, hb5⟩
    obtain ⟨A6, c6, hv, -, -, -⟩ := own_form ho5
    subst hv
    have HB5 := Lib.hid (HB4.out.trans (hb5.mono HB4.out.size))
    simp only [List.length_nil]
    clear ho5 hb5 C3
    go_wp2_with fail
    refine (alive_any _).mono ?_; rintro e' w7 ⟨rfl, hb7⟩
    go_wp2_with fail
    go_ret
    exact ⟨rfl, HB5.out.trans (hb7.mono HB5.out.size)⟩
end Go.Proofs.Ytemcfmneokbhkaa
