/- The program's getPiece. -/
import Derived.Test.YtemcfmneokbhkaaAppl
namespace Go.Proofs.Ytemcfmneokbhkaa
open Go Go.RowKit

/-- A piece handed back: it lies in the memory of the delta or of the base. -/
def PcO (r : Except Nat (List UInt8 × Nat)) (w : World) (e : Ending) (w' : World) : Prop :=
  w = w' ∧ ((∃ x A c, r = .ok x ∧ e = .returned (.tuple #[.slice A x.1.length c, .int .i64 (x.2 : Int), .int .i64 0]) ∧ Rd w w.heap.size A x.1.length (bv x.1) ∧ x.1.length ≤ c ∧ c ≤ 9223372036854775807) ∨
    ∃ n : Nat, r = .error n ∧ e = .returned (.tuple #[.slice none 0 0, .int .i64 0, .int .i64 (n : Int)]))

/-- A part of a slice. -/
theorem run_part {w : World} {A : Option Addr} {l : List UInt8} {c i n : Nat} (hn : 0 < n) (hj : i + n ≤ l.length) (hc : l.length ≤ c) (h : Rd w w.heap.size A l.length (bv l)) :
    ∃ ad, A = some ad ∧ Rd w w.heap.size (some (ad.add i)) n (bv ((l.drop i).take n)) ∧ ∀ w' : World, (Instr.slice 22 (.slice A l.length c) (some (.int .i64 (i : Int))) (some (.int .i64 ((i : Int) + (n : Int)))) none).run Try.prog w' = .ok (.slice (some (ad.add i)) n (c - i)) w' := by
  obtain ⟨ad, hA, hr⟩ := h.drop (k := i) (by omega)
  subst hA
  have hr2 := hr.take (k := n) (by omega)
  refine ⟨ad, rfl, by rw [bv_take, bv_drop]; exact hr2, fun w' => ?_⟩
  have hsz : (Try.prog.info? (Try.prog.elem 22)).map (·.size) = some 1 := by kernel_rfl
  rw [run_slice_lh (P := Try.prog) (w := w') (t := 22) (a := some ad) (len := l.length) (cap := c) (by kernel_rfl) .i64 .i64 (i : Int) ((i : Int) + (n : Int)) (by omega) (by omega) (by omega)]
  cases hq : Try.prog.info? (Try.prog.elem 22) with
  | none => simp [hq] at hsz
  | some x =>
    have hs : x.size = 1 := by simpa [hq] using hsz
    have e2 : ¬ c = i := by omega
    have e3 : ((i : Int) + (n : Int)).toNat - i = n := by omega
    simp [sizeOf, typeInfo, hq, hs, sliced, e2, e3, Result.andThen]

set_option maxRecDepth 100000 in
set_option maxHeartbeats 8000000 in
theorem ppiece_any (A1 A2 : Option Addr) (c1 c2 : Nat) (base d : List UInt8) (p lack : Nat) (w : World) (h1 : Rd w w.heap.size A1 base.length (bv base)) (h2 : Rd w w.heap.size A2 d.length (bv d)) (hc1 : base.length ≤ c1 ∧ c1 ≤ 9223372036854775807) (hc2 : d.length ≤ c2 ∧ c2 ≤ 9223372036854775807)
    (hbl : base.length ≤ 140737488355328) (hdl : d.length ≤ 140737488355328) (hl : lack ≤ 4096) :
    Calls Try.prog 25 #[.slice A1 base.length c1, .slice A2 d.length c2, .int .i64 (p : Int), .int .i64 (lack : Int)] w (PcO (Dl.piece base d p lack) w) := by
  have H1 := Lib.hid h1
  have H2 := Lib.hid h2
  have HG := Lib.hid (fun (p : Nat) => getNum_any A2 c2 _ (p : Int) d w h2 hc2.1 hc2.2)
  obtain ⟨⟨m, p1, e⟩, hg⟩ : ∃ x, x = Wi.getNum d p := ⟨_, rfl⟩
  have hgs := hg.symm
  have HG1 := Lib.hid (HG.out p)
  rw [← hg] at HG1
  unfold getV at HG1
  simp only [] at HG1
  clear hg h1 h2
  by_cases he : e = 0
  · subst he
    obtain ⟨hm, hp1⟩ := getNum_lim hgs
    obtain ⟨h, hh⟩ : ∃ h, h = m / 2 := ⟨_, rfl⟩
    obtain ⟨r, hr⟩ : ∃ h, h = m % 2 := ⟨_, rfl⟩
    have hw1 : (m : Int) / 2 = (h : Int) := by omega
    have hw2 : IntKind.i64.wrap ((m : Int) / 2) = (h : Int) := by rw [hw1]; exact IntWalk.i64_in _ (by omega)
    have hw3 : (m : Int).tmod 2 = (r : Int) := by rw [Int.tmod_eq_emod_of_nonneg (by omega)]; omega
    have hw4 : (m : Int).tdiv 2 = (h : Int) := by rw [Int.tdiv_eq_ediv_of_nonneg (by omega)]; exact hw1
    by_cases hbad : h = 0 ∨ lack < h
    · have HE := Lib.hid (show Dl.piece base d p lack = .error 7 by unfold Dl.piece; rw [hgs]; simp only []; rw [if_neg (by omega), if_pos (by omega)])
      have hb0 := beq_zero h
      have hb1 : decide ((lack : Int) < (h : Int)) = decide (lack < h) := by simp
      clear hgs
      by_cases h0 : h = 0
      · rw [decide_eq_true h0] at hb0
        clear hh hr hw1
        subst h0
        go_enter Try.func25, Try.ntmps25
        go_wp2_with fail
        refine HG1.out.mono ?_; rintro e w1 ⟨rfl, rfl⟩
        go_wp2_with fail
        go_ret3
        exact ⟨rfl, .inr ⟨7, HE.out, rfl⟩⟩
      · have hlh : lack < h := by omega
        rw [decide_eq_false h0] at hb0
        have hlhI : (lack : Int) < (h : Int) := by omega
        have hhl : h ≤ 4611686018427387904 := by omega
        clear hh hr hw1
        go_enter Try.func25, Try.ntmps25
        go_wp2_with fail
        refine HG1.out.mono ?_; rintro e w1 ⟨rfl, rfl⟩
        go_wp2_with fail
        go_ret3
        exact ⟨rfl, .inr ⟨7, HE.out, rfl⟩⟩
    · have h0 : h ≠ 0 := by omega
      have hlh : h ≤ lack := by omega
      have hb0 : ((h : Int) == 0) = false := by rw [beq_zero]; exact decide_eq_false h0
      have hb1 : decide (lack < h) = false := decide_eq_false (by omega)
      have hb1I : ¬ (lack : Int) < (h : Int) := by omega
      by_cases hr0 : r = 0
      · have HO := Lib.hid (Dl.piece_is_own (base := base) (lack := lack) hgs (by omega) (by omega) (by omega))
        rw [← hh] at HO
        have hws : IntKind.i64.wrap ((d.length : Int) - (p1 : Int)) = (d.length : Int) - (p1 : Int) := IntWalk.i64_in _ (by omega)
        have hwa : IntKind.i64.wrap ((p1 : Int) + (h : Int)) = (p1 : Int) + (h : Int) := IntWalk.i64_in _ (by omega)
        subst hr0
        by_cases hlen : d.length < p1 + h
        · have hd : decide ((d.length : Int) - (p1 : Int) < (h : Int)) = true := decide_eq_true (by omega)
          rw [if_pos hlen] at HO
          clear hh hr hw1
          go_enter Try.func25, Try.ntmps25
          go_wp2_with fail
          refine HG1.out.mono ?_; rintro e w1 ⟨rfl, rfl⟩
          go_wp2_with fail
          go_ret3
          exact ⟨rfl, .inr ⟨8, HO.out, rfl⟩⟩
        · have hd : decide ((d.length : Int) - (p1 : Int) < (h : Int)) = false := decide_eq_false (by omega)
          rw [if_neg hlen] at HO
          obtain ⟨ad, hA, hrd, hsl⟩ := run_part (i := p1) (n := h) (by omega) (by omega) hc2.1 H2.out
          have hpl : ((d.drop p1).take h).length = h := by rw [List.length_take, List.length_drop]; omega
          have HRD := Lib.hid hrd
          subst hA
          clear hh hr hw1 hrd
          go_enter Try.func25, Try.ntmps25
          go_wp2_with fail
          refine HG1.out.mono ?_; rintro e w1 ⟨rfl, rfl⟩
          go_wp2_with fail
          go_ret3
          exact ⟨rfl, .inl ⟨_, some (ad.add p1), c2 - p1, HO.out, by simp only [hpl, Int.natCast_add]; rfl, by simp only [hpl]; exact HRD.out, by simp only [hpl]; omega, by omega⟩⟩
      · have hr1 : r = 1 := by omega
        have HG2 := Lib.hid (HG.out p1)
        obtain ⟨⟨k, p2, e2⟩, hg2⟩ : ∃ x, x = Wi.getNum d p1 := ⟨_, rfl⟩
        have hg2s := hg2.symm
        rw [← hg2] at HG2
        unfold getV at HG2
        simp only [] at HG2
        have HO := Lib.hid (Dl.piece_is_copy (base := base) (lack := lack) hgs (by omega) (by omega) (by omega) hg2s)
        rw [← hh] at HO
        subst hr1
        clear hg2
        by_cases he2 : e2 = 0
        · subst he2
          obtain ⟨hk, hp2⟩ := getNum_lim hg2s
          rw [if_neg (by omega)] at HO
          have hws : IntKind.i64.wrap ((base.length : Int) - (h : Int)) = (base.length : Int) - (h : Int) := IntWalk.i64_in _ (by omega)
          by_cases hlen : base.length < k + h
          · have hd : decide ((base.length : Int) - (h : Int) < (k : Int)) = true := decide_eq_true (by omega)
            rw [if_pos (by omega)] at HO
            clear hh hr hw1
            go_enter Try.func25, Try.ntmps25
            go_wp2_with fail
            refine HG1.out.mono ?_; rintro e w1 ⟨rfl, rfl⟩
            go_wp2_with fail
            refine HG2.out.mono ?_; rintro e w1 ⟨rfl, rfl⟩
            go_wp2_with fail
            go_ret3
            exact ⟨rfl, .inr ⟨9, HO.out, rfl⟩⟩
          · have hd : decide ((base.length : Int) - (h : Int) < (k : Int)) = false := decide_eq_false (by omega)
            rw [if_neg (by omega)] at HO
            have hwa : IntKind.i64.wrap ((k : Int) + (h : Int)) = (k : Int) + (h : Int) := IntWalk.i64_in _ (by omega)
            obtain ⟨ad, hA, hrd, hsl⟩ := run_part (i := k) (n := h) (by omega) (by omega) hc1.1 H1.out
            have hpl : ((base.drop k).take h).length = h := by rw [List.length_take, List.length_drop]; omega
            have HRD := Lib.hid hrd
            subst hA
            clear hh hr hw1 hrd
            go_enter Try.func25, Try.ntmps25
            go_wp2_with fail
            refine HG1.out.mono ?_; rintro e w1 ⟨rfl, rfl⟩
            go_wp2_with fail
            refine HG2.out.mono ?_; rintro e w1 ⟨rfl, rfl⟩
            go_wp2_with fail
            go_ret3
            exact ⟨rfl, .inl ⟨_, some (ad.add k), c1 - k, HO.out, by simp only [hpl]; rfl, by simp only [hpl]; exact HRD.out, by simp only [hpl]; omega, by omega⟩⟩
        · have hbe : ((e2 : Int) != 0) = true := by rw [bne_zero]; exact decide_eq_true he2
          have hbe2 : ¬ e2 = 0 := he2
          rw [if_pos he2] at HO
          clear hh hr hw1
          go_enter Try.func25, Try.ntmps25
          go_wp2_with fail
          refine HG1.out.mono ?_; rintro e w1 ⟨rfl, rfl⟩
          go_wp2_with fail
          refine HG2.out.mono ?_; rintro e w1 ⟨rfl, rfl⟩
          go_wp2_with fail
          go_ret3
          exact ⟨rfl, .inr ⟨e2, HO.out, rfl⟩⟩
  · have hbe : ((e : Int) != 0) = true := by rw [bne_zero]; exact decide_eq_true he
    have HO := Lib.hid (Dl.piece_err (base := base) (lack := lack) hgs he)
    clear hgs
    go_enter Try.func25, Try.ntmps25
    go_wp2_with fail
    refine HG1.out.mono ?_; rintro e w1 ⟨rfl, rfl⟩
    go_wp2_with fail
    go_ret3
    exact ⟨rfl, .inr ⟨e, HO.out, rfl⟩⟩
end Go.Proofs.Ytemcfmneokbhkaa
