/- The document's Apply. -/
import Derived.Test.YtemcfmneokbhkaaPiece
namespace Go.Proofs.Ytemcfmneokbhkaa
open Go Go.RowKit

/-- The answer of Apply. -/
def apR : Except Nat (List UInt8) → Value
  | .ok t => .tuple #[.string (sB t), .int .i64 0]
  | .error e => .tuple #[.string (sB []), .int .i64 (e : Int)]
def strSize : Value → Nat
  | .string s => s.size
  | _ => 0

/-- What stands in the loop. -/
structure ApG (base d : List UInt8) (size p2 q : Nat) (out : List UInt8) : Prop where
  go : Dl.goD base d size [] p2 = Dl.goD base d size out q
  ho : out.length ≤ size

set_option maxRecDepth 100000 in
set_option maxHeartbeats 8000000 in
theorem refApply_any (base d : List UInt8) (w : World) (hbl : base.length ≤ 4611686018427387904) (hdl : d.length ≤ 4611686018427387904) :
    Calls Try.prog 16 #[.string (sB base), .string (sB d)] w fun e w' => e = .returned (apR (Dl.applyD base d)) ∧ w = w' := by
  have hsb := sB_size base
  have hsd := sB_size d
  have HG := Lib.hid (fun (p : Nat) => refGetNum_any (sB d) (p : Int) w (by omega))
  simp only [sB_data] at HG
  by_cases ha : 4096 < base.length
  · have HE := Lib.hid (show Dl.applyD base d = .error 3 by unfold Dl.applyD; rw [if_pos ha])
    have hd : decide ((4096 : Int) < (base.length : Int)) = true := decide_eq_true (by omega)
    go_enter Try.func16, Try.ntmps16
    go_wp2_with fail
    go_ret2
    exact ⟨by rw [HE.out]; rfl, rfl⟩
  have hd : decide ((4096 : Int) < (base.length : Int)) = false := decide_eq_false (by omega)
  have hz : (((0 : Nat) : Int)) = (0 : Int) := rfl
  obtain ⟨⟨n, p1, e⟩, hg⟩ : ∃ x, x = Wi.getNum d ((0 : Nat) : Int) := ⟨_, rfl⟩
  have hgs := hg.symm
  have HG1 := Lib.hid (HG.out 0)
  rw [← hg] at HG1
  unfold getV at HG1
  simp only [] at HG1
  rw [hz] at HG1
  clear hg
  by_cases he : e = 0
  · subst he
    obtain ⟨hn, hp1⟩ := getNum_lim hgs
    by_cases hnb : n = base.length
    · subst hnb
      have hbb : ((base.length : Int) != (base.length : Int)) = false := by simp
      obtain ⟨⟨size, p2, e2⟩, hg2⟩ : ∃ x, x = Wi.getNum d p1 := ⟨_, rfl⟩
      have hgs2 := hg2.symm
      have HG2 := Lib.hid (HG.out p1)
      rw [← hg2] at HG2
      unfold getV at HG2
      simp only [] at HG2
      clear hg2
      by_cases he2 : e2 = 0
      · subst he2
        obtain ⟨hsz, hp2⟩ := getNum_lim hgs2
        by_cases hs4 : 4096 < size
        · have HE := Lib.hid (show Dl.applyD base d = .error 3 by
            unfold Dl.applyD
            rw [← hz, hgs]
            simp only []
            rw [hgs2]
            simp only []
            rw [if_neg (by omega), if_neg (by omega), if_neg (by omega), if_neg (by omega), if_pos hs4])
          have hd4 : decide ((4096 : Int) < (size : Int)) = true := decide_eq_true (by omega)
          clear hgs hgs2
          go_enter Try.func16, Try.ntmps16
          go_wp2_with fail
          refine HG1.out.mono ?_; rintro e w1 ⟨rfl, rfl⟩
          go_wp2_with fail
          refine HG2.out.mono ?_; rintro e w1 ⟨rfl, rfl⟩
          go_wp2_with fail
          go_ret2
          exact ⟨by rw [HE.out]; rfl, rfl⟩
        · have HE := Lib.hid (Dl.applyD_is (d := d) (by omega) hgs hgs2 (by omega))
          have hd4 : decide ((4096 : Int) < (size : Int)) = false := decide_eq_false (by omega)
          have hs4' : size ≤ 4096 := by omega
          have HPC := Lib.hid (fun (q lack : Nat) (h : lack ≤ 4096) => refPiece_any base d q lack w hbl hdl h)
          clear hgs hgs2 hs4
          go_enter Try.func16, Try.ntmps16
          go_wp2_with fail
          refine HG1.out.mono ?_; rintro e w1 ⟨rfl, rfl⟩
          go_wp2_with fail
          refine HG2.out.mono ?_; rintro e w1 ⟨rfl, rfl⟩
          go_wp2_with fail
          go_loopw [10, 12] (fun qv ov wr => ∃ (q : Nat) (out : List UInt8), qv = .int .i64 (q : Int) ∧ ov = .string (sB out) ∧ ApG base d size p2 q out ∧ wr = w) (fun _ ov _ => size - strSize ov)
          case atStart => exact ⟨p2, [], rfl, rfl, ⟨rfl, by simp⟩, rfl⟩
          case round =>
            obtain ⟨q, out, rfl, rfl, hA, rfl⟩ := hrel
            have HA := Lib.hid hA
            have hol := hA.ho
            have hso := sB_size out
            clear hA
            by_cases hlt : out.length < size
            · have hltI : (out.length : Int) < (size : Int) := by omega
              have hws : IntKind.i64.wrap ((size : Int) - (out.length : Int)) = ((size - out.length : Nat) : Int) := by rw [IntWalk.i64_in _ (by omega)]; omega
              have HP := Lib.hid (HPC.out q (size - out.length) (by omega))
              have HPL := Lib.hid (fun s q' h => Dl.piece_len (base := base) (d := d) (p := q) (lack := size - out.length) (s := s) (q := q') h)
              cases hpc : Dl.piece base d q (size - out.length) with
              | error e =>
                rw [hpc] at HP
                unfold pcR at HP
                have HER := Lib.hid (show Dl.applyD base d = .error e by rw [HE.out, HA.out.go, Dl.goD_err hlt hpc])
                have hez : e ≠ 0 := by
                  have := Dl.goD_codes (base := base) (d := d) (size := size) _ out q e (Nat.le_refl _) (Dl.goD_err hlt hpc)
                  omega
                have hbe : ((e : Int) != 0) = true := by rw [bne_zero]; exact decide_eq_true hez
                obtain ⟨lack, hlk⟩ : ∃ l, l = size - out.length := ⟨_, rfl⟩
                rw [← hlk] at hws HP
                clear hpc hlk
                go_wp2_with fail
                refine HP.out.mono ?_; rintro e w1 ⟨rfl, rfl⟩
                go_wp2_with fail
                go_ret2
                exact ⟨by rw [HER.out]; rfl, rfl⟩
              | ok x =>
                obtain ⟨s, q'⟩ := x
                rw [hpc] at HP
                unfold pcR at HP
                simp only [] at HP
                obtain ⟨hs0, hs1⟩ := Dl.piece_len hpc
                have HGO := Lib.hid (show Dl.goD base d size [] p2 = Dl.goD base d size (out ++ s) q' by rw [HA.out.go, Dl.goD_ok hlt hpc])
                have hss := sB_size s
                have hz6 : ¬ 9223372036854775807 < (sB out).size + (sB s).size := by omega
                obtain ⟨lack, hlk⟩ : ∃ l, l = size - out.length := ⟨_, rfl⟩
                rw [← hlk] at hws HP hs1
                have hs2 : out.length + s.length ≤ size := by omega
                clear hpc hlk
                go_wp2_with fail
                refine HP.out.mono ?_; rintro e w1 ⟨rfl, rfl⟩
                go_wp2_with fail
                go_roundw
                case rel => first | exact ⟨q', out ++ s, rfl, by rw [sB_append], ⟨HGO.out, by rw [List.length_append]; omega⟩, rfl⟩ | exact ⟨q', out ++ s, rfl, by rw [sB_append], ⟨HGO.out, by rw [List.length_append]; omega⟩, trivial⟩
                case measure => simp only [strSize, ByteArray.size_append]; omega
            · have hltI : ¬ (out.length : Int) < (size : Int) := by omega
              by_cases hq : q = d.length
              · subst hq
                have HER := Lib.hid (show Dl.applyD base d = .ok out by rw [HE.out, HA.out.go, Dl.goD_end hlt])
                have hbe : ((d.length : Int) != (d.length : Int)) = false := by simp
                go_wp2_with fail
                go_ret2
                exact ⟨by rw [HER.out]; rfl, rfl⟩
              · have HER := Lib.hid (show Dl.applyD base d = .error 7 by rw [HE.out, HA.out.go, Dl.goD_form hlt hq])
                have hbe : ((q : Int) != (d.length : Int)) = true := by rw [bne_iff_ne]; omega
                go_wp2_with fail
                go_ret2
                exact ⟨by rw [HER.out]; rfl, rfl⟩
      · have HE := Lib.hid (show Dl.applyD base d = .error e2 by
          unfold Dl.applyD
          rw [← hz, hgs]
          simp only []
          rw [hgs2]
          simp only []
          rw [if_neg (by omega), if_neg (by omega), if_neg (by omega), if_pos he2])
        have hbe : ((e2 : Int) != 0) = true := by rw [bne_zero]; exact decide_eq_true he2
        clear hgs hgs2
        go_enter Try.func16, Try.ntmps16
        go_wp2_with fail
        refine HG1.out.mono ?_; rintro e w1 ⟨rfl, rfl⟩
        go_wp2_with fail
        refine HG2.out.mono ?_; rintro e w1 ⟨rfl, rfl⟩
        go_wp2_with fail
        go_ret2
        exact ⟨by rw [HE.out]; rfl, rfl⟩
    · have HE := Lib.hid (show Dl.applyD base d = .error 1 by
        unfold Dl.applyD
        rw [← hz, hgs]
        simp only []
        rw [if_neg (by omega), if_neg (by omega), if_pos hnb])
      have hbb : ((n : Int) != (base.length : Int)) = true := by rw [bne_iff_ne]; omega
      clear hgs
      go_enter Try.func16, Try.ntmps16
      go_wp2_with fail
      refine HG1.out.mono ?_; rintro e w1 ⟨rfl, rfl⟩
      go_wp2_with fail
      go_ret2
      exact ⟨by rw [HE.out]; rfl, rfl⟩
  · have HE := Lib.hid (show Dl.applyD base d = .error e by
      unfold Dl.applyD
      rw [← hz, hgs]
      simp only []
      rw [if_neg (by omega), if_pos he])
    have hbe : ((e : Int) != 0) = true := by rw [bne_zero]; exact decide_eq_true he
    clear hgs
    go_enter Try.func16, Try.ntmps16
    go_wp2_with fail
    refine HG1.out.mono ?_; rintro e w1 ⟨rfl, rfl⟩
    go_wp2_with fail
    go_ret2
    exact ⟨by rw [HE.out]; rfl, rfl⟩

/-- Bytes in new memory, and an error's number. -/
def OwnBs (K : List UInt8) (e : Nat) (w : World) (x : Ending) (w' : World) : Prop :=
  ∃ v, x = .returned (.tuple #[v, .int .i64 (e : Int)]) ∧ w'.ownsRow w.heap.size 5 1 v K.length (bv K) ∧ Below w.heap.size w w'
def okL : Except Nat (List UInt8) → List UInt8
  | .ok t => t
  | .error _ => []
def errN : Except Nat (List UInt8) → Nat
  | .ok _ => 0
  | .error e => e
theorem apR_eq (x : Except Nat (List UInt8)) : apR x = .tuple #[.string (sB (okL x)), .int .i64 (errN x : Int)] := by cases x <;> rfl
end Go.Proofs.Ytemcfmneokbhkaa
