/- The document's piece, and Apply. -/
import Derived.Test.YtemcfmneokbhkaaMake
import Derived.Test.YtemcfmneokbhkaaGetR
namespace Go.Proofs.Ytemcfmneokbhkaa
open Go Go.RowKit

/-- The answer of piece. -/
def pcR : Except Nat (List UInt8 × Nat) → Value
  | .ok x => .tuple #[.string (sB x.1), .int .i64 (x.2 : Int), .int .i64 0]
  | .error e => .tuple #[.string (sB []), .int .i64 0, .int .i64 (e : Int)]
theorem beq_nat (x y : Nat) : ((x : Int) == (y : Int)) = decide (x = y) := by rw [Bool.eq_iff_iff, beq_iff_eq, decide_eq_true_iff]; omega
theorem beq_zero (x : Nat) : ((x : Int) == 0) = decide (x = 0) := by rw [Bool.eq_iff_iff, beq_iff_eq, decide_eq_true_iff]; omega
theorem bne_zero (x : Nat) : ((x : Int) != 0) = decide (x ≠ 0) := by rw [Bool.eq_iff_iff, bne_iff_ne, decide_eq_true_iff]; omega
theorem getNum_lim {d : List UInt8} {p : Int} {m q : Nat} (h : Wi.getNum d p = (m, q, 0)) : m < 9223372036854775808 ∧ q ≤ d.length := by
  obtain ⟨k, hk, hn, hq, hql, -⟩ := Wi.getNum_just h
  exact ⟨hn, hql⟩
theorem run_str_mid {P : Program} {t : TypeId} (ht : P.underlying t = some .string) (l : List UInt8) (i j : Nat) (hij : i ≤ j) (hj : j ≤ l.length) (w : World) :
    (Instr.slice t (.string (sB l)) (some (.int .i64 (i : Int))) (some (.int .i64 (j : Int))) none).run P w = .ok (.string (sB ((l.take j).drop i))) w := by
  rw [run_slice_string (P := P) (w := w) t (sB l) .i64 .i64 (i : Int) (j : Int) ht (by omega) (by omega) (by rw [sB_size]; omega), sB_extract, Int.toNat_natCast, Int.toNat_natCast]
theorem mid_take {l : List UInt8} {i n : Nat} : (l.take (i + n)).drop i = (l.drop i).take n := by rw [List.drop_take]; congr 1; omega

set_option maxRecDepth 100000 in
set_option maxHeartbeats 8000000 in
theorem refPiece_any (base d : List UInt8) (p lack : Nat) (w : World) (hbl : base.length ≤ 4611686018427387904) (hdl : d.length ≤ 4611686018427387904) (hl : lack ≤ 4096) :
    Calls Try.prog 27 #[.string (sB base), .string (sB d), .int .i64 (p : Int), .int .i64 (lack : Int)] w fun e w' => e = .returned (pcR (Dl.piece base d p lack)) ∧ w = w' := by
  have hsb := sB_size base
  have hsd := sB_size d
  have HG := Lib.hid (fun (p : Nat) => refGetNum_any (sB d) (p : Int) w (by omega))
  simp only [sB_data] at HG
  obtain ⟨⟨m, p1, e⟩, hg⟩ : ∃ x, x = Wi.getNum d p := ⟨_, rfl⟩
  have hgs := hg.symm
  have HG1 := Lib.hid (HG.out p)
  rw [← hg] at HG1
  unfold getV at HG1
  simp only [] at HG1
  clear hg
  by_cases he : e = 0
  · subst he
    obtain ⟨hm, hp1⟩ := getNum_lim hgs
    obtain ⟨h, hh⟩ : ∃ h, h = m / 2 := ⟨_, rfl⟩
    obtain ⟨r, hr⟩ : ∃ h, h = m % 2 := ⟨_, rfl⟩
    have hw1 : (m : Int) / 2 = (h : Int) := by omega
    have hw2 : IntKind.i64.wrap ((m : Int) / 2) = (h : Int) := by rw [hw1]; exact IntWalk.i64_in _ (by omega)
    have hw3 : (m : Int).tmod 2 = (r : Int) := by rw [Int.tmod_eq_emod_of_nonneg (by omega)]; omega
    have hw4 : (m : Int).tdiv 2 = (h : Int) := by rw [Int.tdiv_eq_ediv_of_nonneg (by omega)]; exact hw1
    by_cases hbad : h = 0 ∨ lack < h
    · have HE := Lib.hid (show Dl.piece base d p lack = .error 7 by unfold Dl.piece; rw [hgs]; simp only []; rw [if_neg (by omega), if_pos (by omega)])
      have hb0 := beq_zero h
      have hb1 : decide ((lack : Int) < (h : Int)) = decide (lack < h) := by simp
      clear hgs
      by_cases h0 : h = 0
      · rw [decide_eq_true h0] at hb0
        clear hh hr hw1
        subst h0
        go_enter Try.func27, Try.ntmps27
        go_wp2_with fail
        refine HG1.out.mono ?_; rintro e w1 ⟨rfl, rfl⟩
        go_wp2_with fail
        go_ret3
        exact ⟨by rw [HE.out]; rfl, rfl⟩
      · have hlh : lack < h := by omega
        rw [decide_eq_false h0] at hb0
        have hlhI : (lack : Int) < (h : Int) := by omega
        have hhl : h ≤ 4611686018427387904 := by omega
        clear hh hr hw1
        go_enter Try.func27, Try.ntmps27
        go_wp2_with fail
        refine HG1.out.mono ?_; rintro e w1 ⟨rfl, rfl⟩
        go_wp2_with fail
        go_ret3
        exact ⟨by rw [HE.out]; rfl, rfl⟩
    · have h0 : h ≠ 0 := by omega
      have hlh : h ≤ lack := by omega
      have hb0 : ((h : Int) == 0) = false := by rw [beq_zero]; exact decide_eq_false h0
      have hb1 : decide (lack < h) = false := decide_eq_false (by omega)
      have hb1I : ¬ (lack : Int) < (h : Int) := by omega
      by_cases hr0 : r = 0
      · have HO := Lib.hid (Dl.piece_is_own (base := base) (lack := lack) hgs (by omega) (by omega) (by omega))
        rw [← hh] at HO
        have hws : IntKind.i64.wrap ((d.length : Int) - (p1 : Int)) = (d.length : Int) - (p1 : Int) := IntWalk.i64_in _ (by omega)
        have hwa : IntKind.i64.wrap ((p1 : Int) + (h : Int)) = (p1 : Int) + (h : Int) := IntWalk.i64_in _ (by omega)
        subst hr0
        by_cases hlen : d.length < p1 + h
        · have hd : decide ((d.length : Int) - (p1 : Int) < (h : Int)) = true := decide_eq_true (by omega)
          rw [if_pos hlen] at HO
          clear hh hr hw1
          go_enter Try.func27, Try.ntmps27
          go_wp2_with fail
          refine HG1.out.mono ?_; rintro e w1 ⟨rfl, rfl⟩
          go_wp2_with fail
          go_ret3
          exact ⟨by rw [HO.out]; rfl, rfl⟩
        · have hd : decide ((d.length : Int) - (p1 : Int) < (h : Int)) = false := decide_eq_false (by omega)
          rw [if_neg hlen] at HO
          have hmid := fun w => run_str_mid (P := Try.prog) Try.underlying9 d p1 (p1 + h) (by omega) (by omega) w
          rw [Int.natCast_add, mid_take] at hmid
          clear hh hr hw1
          go_enter Try.func27, Try.ntmps27
          go_wp2_with fail
          refine HG1.out.mono ?_; rintro e w1 ⟨rfl, rfl⟩
          go_wp2_with fail
          go_ret3
          exact ⟨by rw [HO.out]; unfold pcR; simp only [Int.natCast_add]; rfl, rfl⟩
      · have hr1 : r = 1 := by omega
        have HG2 := Lib.hid (HG.out p1)
        obtain ⟨⟨k, p2, e2⟩, hg2⟩ : ∃ x, x = Wi.getNum d p1 := ⟨_, rfl⟩
        have hg2s := hg2.symm
        rw [← hg2] at HG2
        unfold getV at HG2
        simp only [] at HG2
        have HO := Lib.hid (Dl.piece_is_copy (base := base) (lack := lack) hgs (by omega) (by omega) (by omega) hg2s)
        rw [← hh] at HO
        subst hr1
        clear hg2
        by_cases he2 : e2 = 0
        · subst he2
          obtain ⟨hk, hp2⟩ := getNum_lim hg2s
          rw [if_neg (by omega)] at HO
          by_cases hkb : base.length < k
          · have hkI : (base.length : Int) < (k : Int) := by omega
            have hkd : decide (base.length < k) = true := decide_eq_true hkb
            rw [if_pos (by omega)] at HO
            clear hh hr hw1
            go_enter Try.func27, Try.ntmps27
            go_wp2_with fail
            refine HG1.out.mono ?_; rintro e w1 ⟨rfl, rfl⟩
            go_wp2_with fail
            refine HG2.out.mono ?_; rintro e w1 ⟨rfl, rfl⟩
            go_wp2_with fail
            go_ret3
            exact ⟨by rw [HO.out]; rfl, rfl⟩
          · have hkI : ¬ (base.length : Int) < (k : Int) := by omega
            have hkd : decide (base.length < k) = false := decide_eq_false hkb
            have hws : IntKind.i64.wrap ((base.length : Int) - (k : Int)) = (base.length : Int) - (k : Int) := IntWalk.i64_in _ (by omega)
            have hwa : IntKind.i64.wrap ((k : Int) + (h : Int)) = (k : Int) + (h : Int) := IntWalk.i64_in _ (by omega)
            by_cases hlen : base.length < k + h
            · have hd : decide ((base.length : Int) - (k : Int) < (h : Int)) = true := decide_eq_true (by omega)
              rw [if_pos hlen] at HO
              clear hh hr hw1
              go_enter Try.func27, Try.ntmps27
              go_wp2_with fail
              refine HG1.out.mono ?_; rintro e w1 ⟨rfl, rfl⟩
              go_wp2_with fail
              refine HG2.out.mono ?_; rintro e w1 ⟨rfl, rfl⟩
              go_wp2_with fail
              go_ret3
              exact ⟨by rw [HO.out]; rfl, rfl⟩
            · have hd : decide ((base.length : Int) - (k : Int) < (h : Int)) = false := decide_eq_false (by omega)
              rw [if_neg hlen] at HO
              have hmid := fun w => run_str_mid (P := Try.prog) Try.underlying9 base k (k + h) (by omega) (by omega) w
              rw [Int.natCast_add, mid_take] at hmid
              clear hh hr hw1
              go_enter Try.func27, Try.ntmps27
              go_wp2_with fail
              refine HG1.out.mono ?_; rintro e w1 ⟨rfl, rfl⟩
              go_wp2_with fail
              refine HG2.out.mono ?_; rintro e w1 ⟨rfl, rfl⟩
              go_wp2_with fail
              go_ret3
              exact ⟨by rw [HO.out]; rfl, rfl⟩
        · have hbe : ((e2 : Int) != 0) = true := by rw [bne_zero]; exact decide_eq_true he2
          rw [if_pos he2] at HO
          clear hh hr hw1
          go_enter Try.func27, Try.ntmps27
          go_wp2_with fail
          refine HG1.out.mono ?_; rintro e w1 ⟨rfl, rfl⟩
          go_wp2_with fail
          refine HG2.out.mono ?_; rintro e w1 ⟨rfl, rfl⟩
          go_wp2_with fail
          go_ret3
          exact ⟨by rw [HO.out]; rfl, rfl⟩
  · have hbe : ((e : Int) != 0) = true := by rw [bne_zero]; exact decide_eq_true he
    have HO := Lib.hid (Dl.piece_err (base := base) (lack := lack) hgs he)
    clear hgs
    go_enter Try.func27, Try.ntmps27
    go_wp2_with fail
    refine HG1.out.mono ?_; rintro e w1 ⟨rfl, rfl⟩
    go_wp2_with fail
    go_ret3
    exact ⟨by rw [HO.out]; rfl, rfl⟩
end Go.Proofs.Ytemcfmneokbhkaa
