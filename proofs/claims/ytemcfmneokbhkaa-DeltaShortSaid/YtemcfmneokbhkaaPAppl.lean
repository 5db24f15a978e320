/- The program's Apply. -/
import Derived.Test.YtemcfmneokbhkaaPPiece
namespace Go.Proofs.Ytemcfmneokbhkaa
open Go Go.RowKit

/-- What stands in the loop. -/
structure PaG (base d : List UInt8) (size p2 q : Nat) (out : List UInt8) (v : Value) (w wr : World) : Prop where
  go : Dl.goD base d size [] p2 = Dl.goD base d size out q
  ho : out.length ≤ size
  hq : q ≤ d.length
  own : wr.ownsRow w.heap.size 5 1 v out.length (bv out)
  hB : Below w.heap.size w wr
theorem piece_end {base d s : List UInt8} {p lack q : Nat} (h : Dl.piece base d p lack = .ok (s, q)) : q ≤ d.length := by
  unfold Dl.piece at h
  split at h
  · cases h
  · rename_i he
    split at h
    · cases h
    · split at h
      · split at h
        · cases h
        · simp only [Except.ok.injEq, Prod.mk.injEq] at h
          omega
      · split at h
        · cases h
        · rename_i he2
          split at h
          · cases h
          · simp only [Except.ok.injEq, Prod.mk.injEq] at h
            obtain ⟨⟨k, p2, e2⟩, hg⟩ : ∃ x, x = Wi.getNum d ((Wi.getNum d (p : Int)).2.1 : Int) := ⟨_, rfl⟩
            rw [← hg] at h he2
            simp only [ne_eq, Decidable.not_not] at he2
            subst he2
            have := (getNum_lim hg.symm).2
            simp only [] at h
            omega

set_option maxRecDepth 100000 in
set_option maxHeartbeats 8000000 in
theorem papply_any (A1 A2 : Option Addr) (c1 c2 : Nat) (base d : List UInt8) (w : World) (h1 : Rd w w.heap.size A1 base.length (bv base)) (h2 : Rd w w.heap.size A2 d.length (bv d)) (hc1 : base.length ≤ c1 ∧ c1 ≤ 9223372036854775807) (hc2 : d.length ≤ c2 ∧ c2 ≤ 9223372036854775807)
    (hb : base.length ≤ 140737488355328) (hd : d.length ≤ 140737488355328) : Calls Try.prog 15 #[.slice A1 base.length c1, .slice A2 d.length c2] w (OwnBs (okL (Dl.applyD base d)) (errN (Dl.applyD base d)) w) := by
  obtain ⟨i0, hi, hz0, hz1, hz2⟩ := info_parts infoU8
  have H1 := Lib.hid h1
  have H2 := Lib.hid h2
  have HG := Lib.hid (fun (p : Nat) => getNum_any A2 c2 _ (p : Int) d w h2 hc2.1 hc2.2)
  have HNIL := Lib.hid (fun (e : Nat) (he : Dl.applyD base d = .error e) => (show OwnBs (okL (Dl.applyD base d)) (errN (Dl.applyD base d)) w (.returned (.tuple #[.slice none 0 0, .int .i64 (e : Int)])) w from by
    rw [he]; exact ⟨_, rfl, World.ownsRow_nil w _ _ 1, Below.refl _ _⟩))
  have HNIL2 := Lib.hid (fun (e : Nat) (he : Dl.applyD base d = .error e) (w' : World) (hw : Below w.heap.size w w') => (show OwnBs (okL (Dl.applyD base d)) (errN (Dl.applyD base d)) w (.returned (.tuple #[.slice none 0 0, .int .i64 (e : Int)])) w' from by
    rw [he]; exact ⟨_, rfl, World.ownsRow_nil w' _ _ 1, hw⟩))
  clear h1 h2
  by_cases ha : 4096 < base.length
  · have HE := Lib.hid (show Dl.applyD base d = .error 3 by unfold Dl.applyD; rw [if_pos ha])
    have hd1 : decide ((4096 : Int) < (base.length : Int)) = true := decide_eq_true (by omega)
    go_enter Try.func15, Try.ntmps15
    go_wp2_with fail
    go_ret2
    exact HNIL.out 3 HE.out
  have hd1 : decide ((4096 : Int) < (base.length : Int)) = false := decide_eq_false (by omega)
  have hz : (((0 : Nat) : Int)) = (0 : Int) := rfl
  obtain ⟨⟨n, p1, e⟩, hg⟩ : ∃ x, x = Wi.getNum d ((0 : Nat) : Int) := ⟨_, rfl⟩
  have hgs := hg.symm
  have HG1 := Lib.hid (HG.out 0)
  rw [← hg] at HG1
  unfold getV at HG1
  simp only [] at HG1
  rw [hz] at HG1
  clear hg
  by_cases he : e = 0
  · subst he
    obtain ⟨hn, hp1⟩ := getNum_lim hgs
    by_cases hnb : n = base.length
    · subst hnb
      have hbb : ((base.length : Int) != (base.length : Int)) = false := by simp
      obtain ⟨⟨size, p2, e2⟩, hg2⟩ : ∃ x, x = Wi.getNum d p1 := ⟨_, rfl⟩
      have hgs2 := hg2.symm
      have HG2 := Lib.hid (HG.out p1)
      rw [← hg2] at HG2
      unfold getV at HG2
      simp only [] at HG2
      clear hg2
      by_cases he2 : e2 = 0
      · subst he2
        obtain ⟨hsz, hp2⟩ := getNum_lim hgs2
        by_cases hs4 : 4096 < size
        · have HE := Lib.hid (show Dl.applyD base d = .error 3 by
            unfold Dl.applyD
            rw [← hz, hgs]
            simp only []
            rw [hgs2]
            simp only []
            rw [if_neg (by omega), if_neg (by omega), if_neg (by omega), if_neg (by omega), if_pos hs4])
          have hd4 : decide ((4096 : Int) < (size : Int)) = true := decide_eq_true (by omega)
          clear hgs hgs2
          go_enter Try.func15, Try.ntmps15
          go_wp2_with fail
          refine HG1.out.mono ?_; rintro e w1 ⟨rfl, rfl⟩
          go_wp2_with fail
          refine HG2.out.mono ?_; rintro e w1 ⟨rfl, rfl⟩
          go_wp2_with fail
          go_ret2
          exact HNIL.out 3 HE.out
        · have HE := Lib.hid (Dl.applyD_is (d := d) (by omega) hgs hgs2 (by omega))
          have hd4 : decide ((4096 : Int) < (size : Int)) = false := decide_eq_false (by omega)
          have hs4' : size ≤ 4096 := by omega
          have HPC := Lib.hid (fun (wr : World) (hB : Below w.heap.size w wr) (q lack : Nat) (h : lack ≤ 4096) => ppiece_any A1 A2 c1 c2 base d q lack wr (H1.out.later hB) (H2.out.later hB) hc1 hc2 hb hd h)
          clear hgs hgs2 hs4
          go_enter Try.func15, Try.ntmps15
          go_wp2_with fail
          refine HG1.out.mono ?_; rintro e w1 ⟨rfl, rfl⟩
          go_wp2_with fail
          refine HG2.out.mono ?_; rintro e w1 ⟨rfl, rfl⟩
          go_wp2_with fail
          go_loopw [7, 9, 10] (fun qv lv tv wr => ∃ (q lk : Nat) (out : List UInt8), qv = .int .i64 (q : Int) ∧ lv = .int .i64 (lk : Int) ∧ lk + out.length = size ∧ PaG base d size p2 q out tv w wr) (fun _ lv _ _ => (intOf lv).toNat)
          case atStart => exact ⟨p2, size, [], rfl, rfl, by simp, ⟨rfl, by simp, hp2, World.ownsRow_nil w _ _ 1, Below.refl _ _⟩⟩
          case round =>
            obtain ⟨q, lk, out, rfl, rfl, hlk, hA⟩ := hrel
            have HA := Lib.hid hA
            have hol := hA.ho
            have hql := hA.hq
            have HB := Lib.hid hA.hB
            obtain ⟨Av, cv, hv, -, hcm, -⟩ := own_form hA.own
            subst hv
            clear hA
            by_cases hlt : 0 < lk
            · have hltI : (0 : Int) < (lk : Int) := by omega
              have HP := Lib.hid (HPC.out wr HB.out q lk (by omega))
              have hlk2 : size - out.length = lk := by omega
              have HPL := Lib.hid (fun s q' h => Dl.piece_len (base := base) (d := d) (p := q) (lack := lk) (s := s) (q := q') h)
              have HGO := Lib.hid HA.out.go
              have HGE := Lib.hid (fun e (h : Dl.piece base d q lk = .error e) => Dl.goD_err (base := base) (d := d) (out := out) (size := size) (p := q) (e := e) (by omega) (by rw [hlk2]; exact h))
              have HGK := Lib.hid (fun s q' (h : Dl.piece base d q lk = .ok (s, q')) => Dl.goD_ok (base := base) (d := d) (out := out) (size := size) (p := q) (s := s) (q := q') (by omega) (by rw [hlk2]; exact h))
              clear hlk2
              go_wp2_with fail
              refine HP.out.mono ?_; rintro e w1 ⟨rfl, hE⟩
              rcases hE with ⟨⟨s, q'⟩, As, cs, hpc, rfl, hrd, hsc, hcs⟩ | ⟨e, hpc, rfl⟩
              · obtain ⟨hs0, hs1⟩ := HPL.out s q' hpc
                have HQ := Lib.hid (piece_end hpc)
                have HN := Lib.hid (HGK.out s q' hpc)
                have HRD := Lib.hid hrd
                have hw2 : IntKind.i64.wrap ((lk : Int) - (s.length : Int)) = ((lk - s.length : Nat) : Int) := by rw [IntWalk.i64_in _ (by omega)]; omega
                simp only [] at hsc
                clear hpc hrd
                go_wp2_with (at_builtin; go_must (refine wp_app _ rfl (.tmp 54) (.tmp 55) 22 22 rfl w.heap.size 5 i0 _ 1 Try.underlying22 hi hz0 hz1 hz2 rfl (.slice Av out.length cv) out.length (bv out) rfl HA.out.own _ s.length (bv s) rfl (HRD.out.src Try.underlying22 cs (bv_one s)) (by unfold maxLen; omega) (by omega) HB.out.size ?_); intro v2 w2 ho2 hg2 _)
                obtain ⟨A2', k2, hv2, -, -, -⟩ := own_form ho2
                subst hv2
                go_roundw
                case rel =>
                  refine ⟨q', lk - s.length, out ++ s, rfl, by go_num, by rw [List.length_append]; omega, ⟨by rw [HGO.out, HN.out], by rw [List.length_append]; omega, HQ.out, by rw [List.length_append, bv_append]; exact ho2, HB.out.grown hg2 HB.out.size (fun g hg => (HA.out.own.lt g hg).1)⟩⟩
                case measure => simp [intOf]; omega
              · have HER := Lib.hid (show Dl.applyD base d = .error e by rw [HE.out, HGO.out]; exact HGE.out e hpc)
                have hez : e ≠ 0 := by
                  have := Dl.goD_codes (base := base) (d := d) (size := size) _ out q e (Nat.le_refl _) (HGE.out e hpc)
                  omega
                have hbe : ((e : Int) != 0) = true := by rw [bne_zero]; exact decide_eq_true hez
                clear hpc
                go_wp2_with fail
                go_ret2
                exact HNIL2.out e HER.out _ HB.out
            · obtain rfl : lk = 0 := by omega
              have hlt0 : ¬ (0 : Int) < ((0 : Nat) : Int) := by omega
              have hnl : ¬ out.length < size := by omega
              have HLN := Lib.hid (show out.length = size by omega)
              by_cases hqd : q = d.length
              · subst hqd
                have hdq : decide (d.length < d.length) = false := decide_eq_false (by omega)
                have HER := Lib.hid (show Dl.applyD base d = .ok out by rw [HE.out, HA.out.go, Dl.goD_end hnl])
                clear hlt hnl
                go_wp2_with fail
                go_ret2
                rw [HER.out]
                exact ⟨_, rfl, HA.out.own, HB.out⟩
              · have hdq : decide (q < d.length) = true := decide_eq_true (by omega)
                have HER := Lib.hid (show Dl.applyD base d = .error 7 by rw [HE.out, HA.out.go, Dl.goD_form hnl hqd])
                clear hlt hnl
                go_wp2_with fail
                go_ret2
                exact HNIL2.out 7 HER.out _ HB.out
      · have hbe : ((e2 : Int) != 0) = true := by rw [bne_zero]; exact decide_eq_true he2
        have HE := Lib.hid (show Dl.applyD base d = .error e2 by
            unfold Dl.applyD
            rw [← hz, hgs]
            simp only []
            rw [hgs2]
            simp only []
            rw [if_neg (by omega), if_neg (by omega), if_neg (by omega), if_pos he2])
        clear hgs hgs2
        go_enter Try.func15, Try.ntmps15
        go_wp2_with fail
        refine HG1.out.mono ?_; rintro e w1 ⟨rfl, rfl⟩
        go_wp2_with fail
        refine HG2.out.mono ?_; rintro e w1 ⟨rfl, rfl⟩
        go_wp2_with fail
        go_ret2
        exact HNIL.out e2 HE.out
    · have hbb : ((n : Int) != (base.length : Int)) = true := by rw [bne_iff_ne]; omega
      have HE := Lib.hid (show Dl.applyD base d = .error 1 by
            unfold Dl.applyD
            rw [← hz, hgs]
            simp only []
            rw [if_neg (by omega), if_neg (by omega), if_pos hnb])
      clear hgs
      go_enter Try.func15, Try.ntmps15
      go_wp2_with fail
      refine HG1.out.mono ?_; rintro e w1 ⟨rfl, rfl⟩
      go_wp2_with fail
      go_ret2
      exact HNIL.out 1 HE.out
  · have hbe : ((e : Int) != 0) = true := by rw [bne_zero]; exact decide_eq_true he
    have HE := Lib.hid (show Dl.applyD base d = .error e by
            unfold Dl.applyD
            rw [← hz, hgs]
            simp only []
            rw [if_neg (by omega), if_pos he])
    clear hgs
    go_enter Try.func15, Try.ntmps15
    go_wp2_with fail
    refine HG1.out.mono ?_; rintro e w1 ⟨rfl, rfl⟩
    go_wp2_with fail
    go_ret2
    exact HNIL.out e HE.out
end Go.Proofs.Ytemcfmneokbhkaa
