/- The walk of DiffLeast. -/
import Derived.Test.YtmanafhdmijfeaaLCost
namespace Go.Proofs.Ytmanafhdmijfeaa
open Go Go.RowKit

theorem out1_len {a : List UInt8} {x : Ed} (hm : mayB x = true) (hn : x.n.toNat ≤ a.length) : cost1 x + (a.drop x.n.toNat).length ≤ a.length + (out1 a x).length := by
  obtain ⟨k, n, t⟩ := x
  simp only [] at hn ⊢
  rw [List.length_drop]
  rcases mayB_kind hm with ⟨h1, h2, h3⟩ | ⟨h1, h2, h3⟩ | ⟨h1, h2, h3⟩ <;> simp only [] at h1 h2 h3 <;> subst h1
  · simp [cost1, out1]; omega
  · subst h3; simp [cost1, out1]; omega
  · subst h3; simp [cost1, out1]; omega
theorem out1_small {a : List UInt8} {x : Ed} (hm : mayB x = true) (hn : x.n.toNat ≤ a.length) : 1 ≤ x.n.toNat + (out1 a x).length ∧ x.text.length ≤ (out1 a x).length := by
  obtain ⟨k, n, t⟩ := x
  simp only [] at hn ⊢
  rcases mayB_kind hm with ⟨h1, h2, h3⟩ | ⟨h1, h2, h3⟩ | ⟨h1, h2, h3⟩ <;> simp only [] at h1 h2 h3 <;> subst h1
  · have : 0 < t.length := List.length_pos_iff.2 h3
    simp [out1]; omega
  · subst h3; simp [out1]; omega
  · subst h3; simp [out1]; omega
theorem Does.len_le {L : List Ed} {a b : List UInt8} (h : Does L a b) : L.length ≤ a.length + b.length ∧ ∀ x ∈ L, x.text.length ≤ b.length := by
  induction h with
  | nil => exact ⟨Nat.le_refl _, fun x hx => by cases hx⟩
  | @cons x L a b hm hn _ ih =>
    obtain ⟨h1, h2⟩ := out1_small hm hn
    obtain ⟨i1, i2⟩ := ih
    rw [List.length_drop] at i1
    refine ⟨by rw [List.length_cons, List.length_append]; omega, fun y hy => ?_⟩
    rw [List.length_append]
    rcases List.mem_cons.1 hy with rfl | hy
    · omega
    · have := i2 y hy; omega
theorem Does.cost_le {L : List Ed} {a b : List UInt8} (h : Does L a b) : sumC L ≤ a.length + b.length := by
  induction h with
  | nil => simp [sumC]
  | @cons x L a b hm hn _ ih =>
    have h1 := out1_len hm hn
    rw [sumC_cons, List.length_append]
    rw [List.length_drop] at ih h1
    omega

set_option maxRecDepth 100000 in
set_option maxHeartbeats 2000000 in
theorem diffLeast_walk (a : ByteArray) (A : Option Addr) (c : Nat) (L : List Ed) (w : World) (hal : a.size ≤ 4611686018427387904) (h : Rd w w.heap.size A (L.length * 3) (ev L)) (hl : L.length ≤ 4398046511104) (hc : L.length ≤ c ∧ c ≤ 9223372036854775807) (ht : ∀ x ∈ L, x.text.length ≤ 4611686018427387904) :
    Calls Try.prog 8 #[.string a, .slice A L.length c] w fun e w' => e = .returned (.bool true) ∧ Below w.heap.size w w' := by
  obtain ⟨a', rfl⟩ : ∃ l, a = sB l := ⟨a.data.toList, rfl⟩
  rw [sB_size] at hal
  have hap := papply_any a' A c L w h (by omega) hc ht hal
  cases hres : applyS a' L with
  | error e =>
    have he := applyS_err hres
    rw [hres] at hap
    have HAP := Lib.hid hap
    have hne : ((e : Int) != 0) = true := by rw [bne_iff_ne]; omega
    have hem : (sB []).toList = [] := sB_toList []
    clear hap hres he h ht
    go_enter Try.func8, Try.ntmps8
    go_wp2_with fail
    refine HAP.out.mono ?_; rintro x w1 ⟨rfl, hb1⟩
    unfold resA
    go_wp2_with fail
    refine (alive_any _).mono ?_; rintro x w4 ⟨rfl, hb4⟩
    go_wp2_with fail
    go_ret
    exact ⟨rfl, hb1.trans (hb4.mono hb1.size)⟩
  | ok s =>
    obtain ⟨ha1, hs1, hd⟩ := applyS_ok hres
    have hsum := hd.cost_le
    have hcr : costR L = .tuple #[.int .i64 (sumC L : Int), .int .i64 0] := by unfold costR; rw [if_pos (does_may hd ha1), IntWalk.wrap64_in _ (by omega)]
    have htc := txtC_le (does_text hd)
    have hln := (hd.len_le).1
    have hmul : L.length * s.length ≤ 2000 * 1000 := Nat.mul_le_mul (by omega) (by omega)
    have hci : costI a' s = (Df.dist a' s : Int) := by unfold costI; rw [if_neg (by omega)]
    have hle := hd.way.least
    rw [hres] at hap
    have HAP := Lib.hid hap
    have HC := Lib.hid (fun (w1 : World) (hb : Below w.heap.size w w1) => pcost_any A c L w1 (h.later hb) (by omega) hc)
    rw [hcr] at HC
    have HL := Lib.hid (fun w => lcost_any a' s w (by omega) (by omega))
    rw [hci] at HL
    obtain ⟨X, hX⟩ : ∃ X, X = Df.dist a' s := ⟨_, rfl⟩
    obtain ⟨Y, hY⟩ : ∃ Y, Y = sumC L := ⟨_, rfl⟩
    rw [← hX] at HL hle
    rw [← hY] at HC hle
    have dx : decide (X ≤ Y) = true := decide_eq_true hle
    clear hap hres h ht hcr hci hd hX hY hsum htc hmul hln
    go_enter Try.func8, Try.ntmps8
    go_wp2_with fail
    refine HAP.out.mono ?_; rintro x w1 ⟨rfl, hb1⟩
    unfold resA
    go_wp2_with fail
    refine (HC.out w1 hb1).mono ?_; rintro x w2 ⟨rfl, hb2⟩
    have hB := hb1.trans (hb2.mono hb1.size)
    go_wp2_with fail
    refine (HL.out _).mono ?_; rintro x w3 ⟨rfl, hb3⟩
    have hB3 := hB.trans (hb3.mono hB.size)
    go_wp2_with fail
    refine (alive_any _).mono ?_; rintro x w4 ⟨rfl, hb4⟩
    go_wp2_with fail
    go_ret
    exact ⟨rfl, hB3.trans (hb4.mono hB3.size)⟩
end Go.Proofs.Ytmanafhdmijfeaa
