/- The document's Cost. -/
import Derived.Test.YtmanafhdmijfeaaMay
import Derived.Test.YtmanafhdmijfeaaSame
import Derived.Outline
namespace Go.Proofs.Ytmanafhdmijfeaa
open Go Go.RowKit

/-- What an edit costs; which may be in a script whose cost is asked. -/
def cost1 (e : Ed) : Nat := if e.kind = 2 then e.n.toNat + e.text.length else e.text.length
def mayC (e : Ed) : Bool := mayB e && decide (e.n ≤ 1000)
def sumC (L : List Ed) : Nat := (L.map cost1).sum
/-- The answer of Cost. -/
def costR (L : List Ed) : Value := if L.all mayC then .tuple #[.int .i64 (wrap64 (sumC L : Int)), .int .i64 0] else .tuple #[.int .i64 0, .int .i64 1]

theorem sumC_next {L : List Ed} {k : Nat} {e : Ed} (h : L[k]? = some e) : sumC (L.take (k + 1)) = sumC (L.take k) + cost1 e := by
  unfold sumC; rw [List.take_add_one, h]; simp
theorem all_next {L : List Ed} {p : Ed → Bool} {k : Nat} {e : Ed} (h : L[k]? = some e) (ha : (L.take k).all p = true) (he : p e = true) : (L.take (k + 1)).all p = true := by
  rw [List.take_add_one, h, List.all_append, ha]; simp [he]
theorem all_not {L : List Ed} {p : Ed → Bool} {k : Nat} {e : Ed} (h : L[k]? = some e) (he : p e = false) : L.all p = false := by
  rw [Bool.eq_false_iff]
  intro ha
  have := List.all_eq_true.1 ha e (List.mem_of_getElem? h)
  rw [he] at this; cases this
/-- How many bytes all of them put. -/
def txtC (L : List Ed) : Nat := (L.map (·.text.length)).sum
theorem txtC_le {L : List Ed} {m : Nat} (h : ∀ x ∈ L, x.text.length ≤ m) : txtC L ≤ L.length * m := by
  induction L with
  | nil => simp [txtC]
  | cons x L ih =>
    have h1 := h x (by simp)
    have h2 := ih (fun y hy => h y (by simp [hy]))
    simp only [txtC, List.map_cons, List.sum_cons, List.length_cons] at h2 ⊢
    rw [Nat.add_mul]
    omega
theorem wrap64_lim (n : Int) : -9223372036854775808 ≤ wrap64 n ∧ wrap64 n ≤ 9223372036854775807 := by unfold wrap64; omega
theorem wrap_cut {S : Int} {s n l : Nat} (hS : S = wrap64 (s : Int)) : wrap64 (wrap64 (S + (n : Int)) + (l : Int)) = wrap64 ((s + (n + l) : Nat) : Int) := by subst hS; unfold wrap64; omega
theorem wrap_put {S : Int} {s l : Nat} (hS : S = wrap64 (s : Int)) : wrap64 (S + (l : Int)) = wrap64 ((s + l : Nat) : Int) := by subst hS; unfold wrap64; omega
theorem sumC_le {L : List Ed} (k : Nat) : sumC (L.take k) ≤ sumC L := by
  unfold sumC
  conv => rhs; rw [← List.take_append_drop k L, List.map_append, List.sum_append]
  omega

theorem mayB_n {e : Ed} (h : mayB e = true) : 0 ≤ e.n := by
  unfold mayB at h
  split at h
  · simp only [Bool.and_eq_true, decide_eq_true_eq] at h; omega
  · simp only [Bool.and_eq_true, decide_eq_true_eq] at h; omega
theorem ret_i64 {a b : Int} (h : a = b) : Value.int .i64 a = .int .i64 b := by rw [h]

set_option maxRecDepth 100000 in
set_option maxHeartbeats 2000000 in
theorem refCost_any (A : Option Addr) (c : Nat) (L : List Ed) (w : World) (h : Rd w w.heap.size A (L.length * 3) (ev L)) (hl : L.length ≤ 4611686018427387904) :
    Calls Try.prog 19 #[.slice A L.length c] w fun x w' => x = .returned (costR L) ∧ Below w.heap.size w w' := by
  have H := Lib.hid h
  clear h
  go_enter Try.func19, Try.ntmps19
  go_wp2_with fail
  go_loopw [4, 5] (fun s i wr => ∃ k : Nat, k ≤ L.length ∧ i = .int .i64 (k : Int) ∧ s = .int .i64 (wrap64 (sumC (L.take k) : Int)) ∧ (L.take k).all mayC = true ∧ Below w.heap.size w wr) (fun _ i _ => L.length - (intOf i).toNat)
  case atStart => exact ⟨0, Nat.zero_le _, rfl, ret_i64 (by simp [sumC, wrap64]), rfl, Below.refl _ _⟩
  case round =>
    obtain ⟨k, hk, rfl, rfl, ha, hB⟩ := hrel
    have HA := Lib.hid ha
    obtain ⟨S, hS⟩ : ∃ S, S = wrap64 (sumC (L.take k) : Int) := ⟨_, rfl⟩
    rw [← hS]
    have hSl := wrap64_lim (sumC (L.take k) : Int)
    rw [← hS] at hSl
    have HSS := Lib.hid hS
    clear ha hS
    by_cases hlt : k < L.length
    · have hltI : (k : Int) < (L.length : Int) := by omega
      obtain ⟨x, hx⟩ : ∃ x, L[k]? = some x := ⟨_, List.getElem?_eq_getElem hlt⟩
      obtain ⟨ad, rfl, -, c0, c1, c2⟩ := (H.out.below hB).ed hx
      have hsn := sumC_next hx
      have hM := may_any x
      have HX := Lib.hid hx
      have HM := Lib.hid hM
      unfold edV at HM
      have HS := Lib.hid hsn
      clear hx hM hsn
      have hn0 := fun h => mayB_n (e := x) h
      have HN0 := Lib.hid hn0
      have HC1 := Lib.hid (show cost1 x = if x.kind = 2 then x.n.toNat + x.text.length else x.text.length from rfl)
      have hss := sB_size x.text
      have hsi : ((sB x.text).size : Int) = (x.text.length : Int) := by rw [hss]
      have HSZ := Lib.hid hsi
      clear hn0 hss hsi
      by_cases hm : mayB x = true
      · have hn1 : 0 ≤ x.n := HN0.out hm
        by_cases hb : x.n ≤ 1000
        · have hbg : decide (1000 < x.n) = false := decide_eq_false (by omega)
          have hmc : mayC x = true := by unfold mayC; rw [hm, decide_eq_true hb]; rfl
          have HMC := Lib.hid hmc
          clear hmc
          by_cases hk2 : x.kind = 2
          · have hkb : (x.kind == 2) = true := by rw [hk2]; rfl
            have hcs : cost1 x = x.n.toNat + x.text.length := by rw [HC1.out, if_pos hk2]
            have HCS := Lib.hid hcs
            clear hcs hk2
            go_wp2_with fail
            refine (HM.out _).mono ?_; rintro e w1 ⟨rfl, hb1⟩
            have hB1 := hB.trans (hb1.mono hB.size)
            obtain ⟨d0, d1, d2⟩ := (H.out.below hB1).ed_at HX.out
            clear c0 c1 c2
            go_wp2_with fail
            go_roundw
            case rel => exact ⟨k + 1, by omega, by go_num, ret_i64 (by rw [HS.out, HCS.out, HSZ.out]; first | exact wrap_put HSS.out | (rw [← Int.toNat_of_nonneg hn1]; exact wrap_cut HSS.out)), all_next HX.out HA.out HMC.out, hB1⟩
            case measure => simp [intOf]; omega
          · have hkb : (x.kind == 2) = false := by simpa using hk2
            have hcs : cost1 x = x.text.length := by rw [HC1.out, if_neg hk2]
            have HCS := Lib.hid hcs
            clear hcs
            go_wp2_with fail
            refine (HM.out _).mono ?_; rintro e w1 ⟨rfl, hb1⟩
            have hB1 := hB.trans (hb1.mono hB.size)
            obtain ⟨d0, d1, d2⟩ := (H.out.below hB1).ed_at HX.out
            clear c0 c1 c2
            go_wp2_with fail
            go_roundw
            case rel => exact ⟨k + 1, by omega, by go_num, ret_i64 (by rw [HS.out, HCS.out, HSZ.out]; first | exact wrap_put HSS.out | (rw [← Int.toNat_of_nonneg hn1]; exact wrap_cut HSS.out)), all_next HX.out HA.out HMC.out, hB1⟩
            case measure => simp [intOf]; omega
        · have hbg : decide (1000 < x.n) = true := decide_eq_true (by omega)
          have hmc : mayC x = false := by unfold mayC; rw [decide_eq_false hb, Bool.and_false]
          have HMC := Lib.hid hmc
          clear hmc
          go_wp2_with fail
          refine (HM.out _).mono ?_; rintro e w1 ⟨rfl, hb1⟩
          have hB1 := hB.trans (hb1.mono hB.size)
          obtain ⟨d0, d1, d2⟩ := (H.out.below hB1).ed_at HX.out
          clear c0 c1 c2
          go_wp2_with fail
          go_ret2
          exact ⟨by unfold costR; rw [all_not HX.out HMC.out]; rfl, hB1⟩
      · have hm' : mayB x = false := by simpa using hm
        have hmc : mayC x = false := by unfold mayC; rw [hm', Bool.false_and]
        have HMC := Lib.hid hmc
        clear hmc hm
        go_wp2_with fail
        refine (HM.out _).mono ?_; rintro e w1 ⟨rfl, hb1⟩
        have hB1 := hB.trans (hb1.mono hB.size)
        clear c0 c1 c2
        go_wp2_with fail
        go_ret2
        exact ⟨by unfold costR; rw [all_not HX.out HMC.out]; rfl, hB1⟩
    · have hltI : ¬ (k : Int) < (L.length : Int) := by omega
      obtain rfl : k = L.length := by omega
      have ha := HA.out
      rw [List.take_length] at ha
      have HA2 := Lib.hid ha
      clear ha
      go_wp2_with fail
      go_ret2
      exact ⟨by rw [HSS.out, List.take_length]; unfold costR; rw [HA2.out]; rfl, hB⟩
end Go.Proofs.Ytmanafhdmijfeaa
