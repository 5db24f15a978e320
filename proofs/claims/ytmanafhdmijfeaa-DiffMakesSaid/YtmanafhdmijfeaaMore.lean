/- The document's more: a script with one byte more of a kind. -/
import Derived.Test.YtmanafhdmijfeaaInv
namespace Go.Proofs.Ytmanafhdmijfeaa
open Go Go.RowKit

def growE (e : Ed) (kd : Int) (s : List UInt8) : Ed := if kd = 3 then { e with text := e.text ++ s } else { e with n := e.n + 1 }
def moreS (L : List Ed) (kd : Int) (s : List UInt8) : List Ed := match L.getLast? with
  | some e => if e.kind = kd then L.dropLast ++ [growE e kd s] else L ++ [growE ⟨kd, 0, []⟩ kd s]
  | none => [growE ⟨kd, 0, []⟩ kd s]

theorem moreS_nil (kd : Int) (s : List UInt8) : moreS [] kd s = [] ++ [growE ⟨kd, 0, []⟩ kd s] := rfl
theorem moreS_same {K : List Ed} {e : Ed} {kd : Int} {s : List UInt8} (h : e.kind = kd) : moreS (K ++ [e]) kd s = K ++ [growE e kd s] := by
  unfold moreS
  rw [List.getLast?_append]
  simp [h]
theorem moreS_other {K : List Ed} {e : Ed} {kd : Int} {s : List UInt8} (h : ¬ e.kind = kd) : moreS (K ++ [e]) kd s = (K ++ [e]) ++ [growE ⟨kd, 0, []⟩ kd s] := by
  unfold moreS
  rw [List.getLast?_append]
  simp [h]

theorem ev_set {K : List Ed} {e e' : Ed} {N j : Nat} {u : Value} (hN : K.length = N) (hj : j < 3) (he : (edCells e).set j u = edCells e') : (ev (K ++ [e])).set (N * 3 + j) u = ev (K ++ [e']) := by
  subst hN
  rw [← ev_snoc, ← ev_snoc, ← he]
  rw [List.set_append_right _ _ (by rw [ev_length]; omega), ev_length]
  congr 2
  omega
theorem ev_last {K : List Ed} {N : Nat} (hN : K.length = N) (e : Ed) (j : Nat) (hj : j < 3) : (ev (K ++ [e]))[N * 3 + j]? = (edCells e)[j]? := ev_at _ _ _ _ (by subst hN; simp) hj

theorem set_put (e : Ed) (s : List UInt8) : (edCells e).set 2 (.string (sB e.text ++ sB s)) = edCells (growE e 3 s) := by
  unfold growE
  rw [if_pos rfl, ← sB_append]
  rfl

/-- A script of the call's own, one byte longer. -/
def Mored (base : Nat) (K : List Ed) (w : World) (x : Ending) (w' : World) : Prop :=
  ∃ v, x = .returned v ∧ w'.ownsRow base 32 3 v K.length (ev K) ∧ Below base w w'

theorem own_some {w : World} {base e k n c : Nat} {A : Option Addr} {xs : List Value} (h : w.ownsRow base e k (.slice A n c) n xs) (hn : 0 < n) : ∃ q, A = some ⟨q, 0, none⟩ := by
  obtain ⟨g, cap, hv, -, -⟩ := h.form hn
  injection hv with h1
  exact ⟨g, h1⟩

/-- What is stored at the end. -/
theorem mored_set {base q c N j : Nat} {K : List Ed} {e e' : Ed} {u : Value} {w w1 : World} (ho : w1.ownsRow base 32 3 (.slice (some ⟨q, 0, none⟩) (N + 1) c) (N + 1) (ev (K ++ [e]))) (hN : K.length = N) (hB : Below base w w1) (hj : j < 3) (he : (edCells e).set j u = edCells e') :
    (w1.setCell ⟨q, N * 3 + j, none⟩ u).ownsRow base 32 3 (.slice (some ⟨q, 0, none⟩) (N + 1) c) (K ++ [e']).length (ev (K ++ [e'])) ∧ Below base w (w1.setCell ⟨q, N * 3 + j, none⟩ u) := by
  have h := ho.stored (N * 3 + j) u
  rw [ev_set hN hj he] at h
  exact ⟨by rw [len_snoc, hN]; exact h.1, hB.setCell (ho.lt q rfl).1 u⟩

/-- The cells of the last one. -/
theorem last_cells {base q c N : Nat} {K : List Ed} {e : Ed} {w : World} (ho : w.ownsRow base 32 3 (.slice (some ⟨q, 0, none⟩) (N + 1) c) (N + 1) (ev (K ++ [e]))) (hN : K.length = N) :
    w.cell? ⟨q, N * 3, none⟩ = some (.int .i64 e.kind) ∧ w.cell? ⟨q, N * 3 + 1, none⟩ = some (.int .i64 e.n) ∧ w.cell? ⟨q, N * 3 + 2, none⟩ = some (.string (sB e.text)) ∧ w.frozen? ⟨q, N * 3 + 1, none⟩ = false ∧ w.frozen? ⟨q, N * 3 + 2, none⟩ = false :=
  ⟨(ho.cellAt (N * 3 + 0) (by omega)).trans (ev_last hN e 0 (by omega)), (ho.cellAt (N * 3 + 1) (by omega)).trans (ev_last hN e 1 (by omega)), (ho.cellAt (N * 3 + 2) (by omega)).trans (ev_last hN e 2 (by omega)), ho.frozenAt _, ho.frozenAt _⟩


set_option maxRecDepth 100000 in
set_option maxHeartbeats 4000000 in
theorem more_put (base : Nat) (v : Value) (L : List Ed) (s : List UInt8) (w : World) (ho : w.ownsRow base 32 3 v L.length (ev L)) (hbase : base ≤ w.heap.size) (hL : L.length ≤ 1000000) (hn : ∀ e ∈ L, 0 ≤ e.n ∧ e.n ≤ 1000000) (ht : ∀ e ∈ L, e.text.length ≤ 1000000) (hs : s.length ≤ 1000000) :
    Calls Try.prog 27 #[v, .int .i64 3, .string (sB s)] w (Mored base (moreS L 3 s) w) := by
  obtain ⟨i0, hi, hz0, hz1, hz2⟩ := info_parts infoEd
  obtain ⟨Av, cv, hv, -, -, -⟩ := own_form ho
  subst hv
  have hbk := build_kind 3
  have hss := sB_size s
  have hs0 := sB_size []
  rcases List.eq_nil_or_concat L with rfl | ⟨K, e, rfl⟩
  · rw [moreS_nil]
    have ho : w.ownsRow base 32 3 (.slice Av 0 cv) 0 (ev []) := ho
    have HO := Lib.hid ho
    have hcc : ¬ 9223372036854775807 < (sB []).size + (sB s).size := by rw [hs0, hss]; simp; omega
    clear ho hn ht hss hs0 hL
    change Calls _ _ #[.slice Av 0 cv, _, _] _ _
    go_enter Try.func27, Try.ntmps27
    go_wp2_with (at_builtin; go_must (refine wp_appK _ 3 rfl (.tmp 22) (.tmp 25) 22 22 rfl base 32 i0 _ 32 Try.underlying22 hi hz0 hz1 hz2 rfl (.slice Av 0 cv) 0 (ev []) rfl (HO.out.alloc _) (.slice (some ⟨w.heap.size, 0, none⟩) 1 1) 1 (edCells ⟨3, 0, []⟩) rfl (new_srcK 3 Try.underlying22 w (edCells ⟨3, 0, []⟩) 1 1 32 (0, 0) rfl (ev_one [⟨3, 0, []⟩] · ·)) (by unfold maxLen; omega) (by omega) (by simp; omega) ?_); intro v2 w2 ho2 hg2 _; rw [ev_snoc] at ho2; have hB2 : Below base w w2 := ((Below.refl base w).alloc hbase _).grown hg2 (by simp; omega) (fun q hq => (HO.out.lt q hq).1); obtain ⟨A2, c2, hv2, -, -, -⟩ := own_form ho2; subst hv2; obtain ⟨q, hq⟩ := own_some ho2 (by omega); subst hq; obtain ⟨p0, p1, p2, f1, f2⟩ := last_cells ho2 (N := 0) rfl; have HO2 := Lib.hid ho2; clear ho2 hg2)
    go_ret
    exact ⟨_, rfl, mored_set HO2.out (N := 0) rfl hB2 (j := 2) (by omega) (set_put _ _)⟩
  · rw [List.concat_eq_append] at ho hL hn ht ⊢
    obtain ⟨N, hN⟩ : ∃ N, N = K.length := ⟨_, rfl⟩
    have hl : (K ++ [e]).length = N + 1 := by rw [len_snoc, hN]
    have hen := hn e (by simp)
    have het := ht e (by simp)
    rw [hl] at ho hL ⊢
    have HO := Lib.hid ho
    have HN := Lib.hid hN.symm
    have HL := Lib.hid hl
    obtain ⟨q0, hq0⟩ := own_some ho (by omega)
    subst hq0
    obtain ⟨o0, o1, o2, g1, g2⟩ := last_cells ho hN.symm
    clear ho hn ht hN hl
    by_cases hke : e.kind = 3
    · rw [moreS_same hke]
      have hbe : (e.kind != 3) = false := by simp [hke]
      have hcc : ¬ 9223372036854775807 < (sB e.text).size + (sB s).size := by rw [sB_size, hss]; omega
      clear hke hss hs0
      go_enter Try.func27, Try.ntmps27
      go_wp2_with fail
      go_ret
      exact ⟨_, rfl, mored_set HO.out HN.out (Below.refl _ _) (j := 2) (by omega) (set_put _ _)⟩
    · rw [moreS_other hke]
      obtain ⟨M, hM⟩ : ∃ M, M = K ++ [e] ++ [growE ⟨3, 0, []⟩ 3 s] := ⟨_, rfl⟩
      rw [← hM]
      have HM := Lib.hid hM
      clear hM
      have hbe : (e.kind != 3) = true := by simp [hke]
      have hcc : ¬ 9223372036854775807 < (sB []).size + (sB s).size := by rw [hs0, hss]; simp; omega
      clear hke hss hs0
      go_enter Try.func27, Try.ntmps27
      go_wp2_with (at_builtin; go_must (refine wp_appK _ 3 rfl (.tmp 22) (.tmp 25) 22 22 rfl base 32 i0 _ 32 Try.underlying22 hi hz0 hz1 hz2 rfl (.slice (some ⟨q0, 0, none⟩) (N + 1) cv) (N + 1) (ev (K ++ [e])) rfl (HO.out.alloc _) (.slice (some ⟨w.heap.size, 0, none⟩) 1 1) 1 (edCells ⟨3, 0, []⟩) rfl (new_srcK 3 Try.underlying22 w (edCells ⟨3, 0, []⟩) 1 1 32 (0, 0) rfl (ev_one [⟨3, 0, []⟩] · ·)) (by unfold maxLen; omega) (by omega) (by simp; omega) ?_); intro v2 w2 ho2 hg2 _; rw [ev_snoc] at ho2; have hB2 : Below base w w2 := ((Below.refl base w).alloc hbase _).grown hg2 (by simp; omega) (fun q hq => (HO.out.lt q hq).1); obtain ⟨A2, c2, hv2, -, -, -⟩ := own_form ho2; subst hv2; obtain ⟨q, hq⟩ := own_some ho2 (by omega); subst hq; obtain ⟨p0, p1, p2, f1, f2⟩ := last_cells ho2 HL.out; have HO2 := Lib.hid ho2; clear ho2 hg2)
      go_ret
      rw [HM.out]
      exact ⟨_, rfl, mored_set HO2.out HL.out hB2 (j := 2) (by omega) (set_put _ _)⟩

set_option maxRecDepth 100000 in
set_option maxHeartbeats 4000000 in
theorem more_num (base : Nat) (v : Value) (L : List Ed) (kd : Int) (s : List UInt8) (w : World) (hk3 : ¬ kd = 3) (ho : w.ownsRow base 32 3 v L.length (ev L)) (hbase : base ≤ w.heap.size) (hL : L.length ≤ 1000000) (hn : ∀ e ∈ L, 0 ≤ e.n ∧ e.n ≤ 1000000) (ht : ∀ e ∈ L, e.text.length ≤ 1000000) (hs : s.length ≤ 1000000) :
    Calls Try.prog 27 #[v, .int .i64 kd, .string (sB s)] w (Mored base (moreS L kd s) w) := by
  obtain ⟨i0, hi, hz0, hz1, hz2⟩ := info_parts infoEd
  obtain ⟨Av, cv, hv, -, -, -⟩ := own_form ho
  subst hv
  have hbk := build_kind kd
  have hss := sB_size s
  have hs0 := sB_size []
  have hkb3 : (kd == 3) = false := by simpa using hk3
  have HK3 := Lib.hid hk3
  clear hk3
  rcases List.eq_nil_or_concat L with rfl | ⟨K, e, rfl⟩
  · rw [moreS_nil]
    have ho : w.ownsRow base 32 3 (.slice Av 0 cv) 0 (ev []) := ho
    have HO := Lib.hid ho
    have hcc : ¬ 9223372036854775807 < (sB []).size + (sB s).size := by rw [hs0, hss]; simp; omega
    clear ho hn ht hss hs0 hL
    change Calls _ _ #[.slice Av 0 cv, _, _] _ _
    go_enter Try.func27, Try.ntmps27
    go_wp2_with (at_builtin; go_must (refine wp_appK _ 3 rfl (.tmp 22) (.tmp 25) 22 22 rfl base 32 i0 _ 32 Try.underlying22 hi hz0 hz1 hz2 rfl (.slice Av 0 cv) 0 (ev []) rfl (HO.out.alloc _) (.slice (some ⟨w.heap.size, 0, none⟩) 1 1) 1 (edCells ⟨kd, 0, []⟩) rfl (new_srcK 3 Try.underlying22 w (edCells ⟨kd, 0, []⟩) 1 1 32 (0, 0) rfl (ev_one [⟨kd, 0, []⟩] · ·)) (by unfold maxLen; omega) (by omega) (by simp; omega) ?_); intro v2 w2 ho2 hg2 _; rw [ev_snoc] at ho2; have hB2 : Below base w w2 := ((Below.refl base w).alloc hbase _).grown hg2 (by simp; omega) (fun q hq => (HO.out.lt q hq).1); obtain ⟨A2, c2, hv2, -, -, -⟩ := own_form ho2; subst hv2; obtain ⟨q, hq⟩ := own_some ho2 (by omega); subst hq; obtain ⟨p0, p1, p2, f1, f2⟩ := last_cells ho2 (N := 0) rfl; have HO2 := Lib.hid ho2; clear ho2 hg2)
    go_ret
    exact ⟨_, rfl, mored_set HO2.out (N := 0) rfl hB2 (j := 1) (by omega) (by simp [edCells, growE, HK3.out])⟩
  · rw [List.concat_eq_append] at ho hL hn ht ⊢
    obtain ⟨N, hN⟩ : ∃ N, N = K.length := ⟨_, rfl⟩
    have hl : (K ++ [e]).length = N + 1 := by rw [len_snoc, hN]
    have hen := hn e (by simp)
    have het := ht e (by simp)
    rw [hl] at ho hL ⊢
    have HO := Lib.hid ho
    have HN := Lib.hid hN.symm
    have HL := Lib.hid hl
    obtain ⟨q0, hq0⟩ := own_some ho (by omega)
    subst hq0
    obtain ⟨o0, o1, o2, g1, g2⟩ := last_cells ho hN.symm
    clear ho hn ht hN hl
    by_cases hke : e.kind = kd
    · rw [moreS_same hke]
      have hbe : (e.kind != kd) = false := by simp [hke]
      have hcc : ¬ 9223372036854775807 < (sB e.text).size + (sB s).size := by rw [sB_size, hss]; omega
      clear hke hss hs0
      go_enter Try.func27, Try.ntmps27
      go_wp2_with fail
      go_ret
      exact ⟨_, rfl, mored_set HO.out HN.out (Below.refl _ _) (j := 1) (by omega) (by simp [edCells, growE, HK3.out])⟩
    · rw [moreS_other hke]
      obtain ⟨M, hM⟩ : ∃ M, M = K ++ [e] ++ [growE ⟨kd, 0, []⟩ kd s] := ⟨_, rfl⟩
      rw [← hM]
      have HM := Lib.hid hM
      clear hM
      have hbe : (e.kind != kd) = true := by simp [hke]
      have hcc : ¬ 9223372036854775807 < (sB []).size + (sB s).size := by rw [hs0, hss]; simp; omega
      clear hke hss hs0
      go_enter Try.func27, Try.ntmps27
      go_wp2_with (at_builtin; go_must (refine wp_appK _ 3 rfl (.tmp 22) (.tmp 25) 22 22 rfl base 32 i0 _ 32 Try.underlying22 hi hz0 hz1 hz2 rfl (.slice (some ⟨q0, 0, none⟩) (N + 1) cv) (N + 1) (ev (K ++ [e])) rfl (HO.out.alloc _) (.slice (some ⟨w.heap.size, 0, none⟩) 1 1) 1 (edCells ⟨kd, 0, []⟩) rfl (new_srcK 3 Try.underlying22 w (edCells ⟨kd, 0, []⟩) 1 1 32 (0, 0) rfl (ev_one [⟨kd, 0, []⟩] · ·)) (by unfold maxLen; omega) (by omega) (by simp; omega) ?_); intro v2 w2 ho2 hg2 _; rw [ev_snoc] at ho2; have hB2 : Below base w w2 := ((Below.refl base w).alloc hbase _).grown hg2 (by simp; omega) (fun q hq => (HO.out.lt q hq).1); obtain ⟨A2, c2, hv2, -, -, -⟩ := own_form ho2; subst hv2; obtain ⟨q, hq⟩ := own_some ho2 (by omega); subst hq; obtain ⟨p0, p1, p2, f1, f2⟩ := last_cells ho2 HL.out; have HO2 := Lib.hid ho2; clear ho2 hg2)
      go_ret
      rw [HM.out]
      exact ⟨_, rfl, mored_set HO2.out HL.out hB2 (j := 1) (by omega) (by simp [edCells, growE, HK3.out])⟩

end Go.Proofs.Ytmanafhdmijfeaa
