/- The walk of DiffInverts. -/
import Derived.Test.YtmanafhdmijfeaaLCost
import Derived.Test.YtmanafhdmijfeaaOver
namespace Go.Proofs.Ytmanafhdmijfeaa
open Go Go.RowKit

theorem build_none (w : World) : (Instr.build 32 #[]).run Try.prog w = .ok (.agg #[.int .i64 0, .int .i64 0, .string ⟨#[]⟩]) w := run_build w 32 _ _ (by kernel_rfl)

/-- What stands in the loop that writes over the first answer. -/
structure IvG (A : Option Addr) (n c : Nat) (w3 wr : World) : Prop where
  hg : w3.grownBy wr (Value.slice A n c).ownBlock
  hq : 0 < n → ∃ q cs, A = some ⟨q, 0, none⟩ ∧ Blk wr q 32 cs ∧ n * 3 ≤ cs.size
theorem ivG_start {A : Option Addr} {n c base : Nat} {xs : List Value} {w : World} (h : w.ownsRow base 32 3 (.slice A n c) n xs) : IvG A n c w w := by
  refine ⟨World.grownBy.refl w _, fun hn => ?_⟩
  rcases h.2 with ⟨h1, -⟩ | ⟨q, cap, cur, h1, -, hb, hnc, -, hs, -⟩
  · simp only [Value.slice.injEq] at h1; omega
  · simp only [Value.slice.injEq] at h1
    exact ⟨q, cur, h1.1, hb, by rw [hs]; exact Nat.mul_le_mul_right 3 hnc⟩

set_option maxRecDepth 100000 in
set_option maxHeartbeats 4000000 in
theorem diffInverts_walk (a : ByteArray) (A : Option Addr) (c : Nat) (L : List Ed) (w : World) (hal : a.size ≤ 4611686018427387904) (h : Rd w w.heap.size A (L.length * 3) (ev L)) (hl : L.length * 32 ≤ 140737488351232) (hc : L.length ≤ c ∧ c ≤ 9223372036854775807) (ht : ∀ x ∈ L, x.text.length ≤ 4611686018427387904) :
    Calls Try.prog 6 #[.string a, .slice A L.length c] w fun e w' => e = .returned (.bool true) ∧ Below w.heap.size w w' := by
  obtain ⟨a', rfl⟩ : ∃ l, a = sB l := ⟨a.data.toList, rfl⟩
  rw [sB_size] at hal
  have HI := Lib.hid (fun (w1 : World) (hb : Below w.heap.size w w1) => pinvert_any a' A c L w1 (h.later hb) hl hc ht hal)
  have HR := Lib.hid (fun (w1 : World) (hb : Below w.heap.size w w1) => refInvert_any a' A c L w1 (h.later hb) hl ht hal)
  have hlen : (invR a' L).1.length ≤ L.length := by
    unfold invR
    split
    · have : ∀ (a : List UInt8) (L : List Ed), (invS a L).length = L.length := by
        intro a L
        induction L generalizing a with
        | nil => rfl
        | cons x L ih => rw [invS, List.length_cons, ih, List.length_cons]
      exact Nat.le_of_eq (this _ _)
    · exact Nat.zero_le _
  obtain ⟨K, e, hke⟩ : ∃ K e, invR a' L = (K, e) := ⟨_, _, rfl⟩
  rw [hke] at HI HR hlen
  simp only [] at HI HR hlen
  have hbn := build_none
  clear hke h ht hc
  go_enter Try.func6, Try.ntmps6
  go_wp2_with fail
  refine (HI.out w (Below.refl _ _)).mono ?_; rintro x w1 ⟨v, rfl, ho, hb1⟩
  obtain ⟨A1, c1, hv, -, -, -⟩ := own_form ho
  subst hv
  have HO := Lib.hid ho
  clear ho
  go_wp2_with fail
  refine (HR.out w1 hb1).mono ?_; rintro x w2 ⟨v2, rfl, ho2, hb2⟩
  obtain ⟨A2, c2, hv2, -, -, -⟩ := own_form ho2
  subst hv2
  have HO1 := Lib.hid (own_below HO.out hb2)
  have hsm := same_any A1 A2 c1 c2 K K w2.heap.size w2.heap.size w2 (Rd.of_ownK HO1.out) (Rd.of_ownK ho2) (by omega)
  rw [show decide (K = K) = true from decide_eq_true rfl] at hsm
  have HS := Lib.hid hsm
  have HO2 := Lib.hid ho2
  have hB2 := hb1.trans (hb2.mono hb1.size)
  clear hsm ho2
  go_wp2_with fail
  refine HS.out.mono ?_; rintro x w3 ⟨rfl, n, hw3⟩
  have ho13 : w3.ownsRow w.heap.size 32 3 (.slice A1 K.length c1) K.length (ev K) := by rw [hw3]; exact HO1.out
  have ho23 : w3.ownsRow w1.heap.size 32 3 (.slice A2 K.length c2) K.length (ev K) := by rw [hw3]; exact HO2.out
  have hB3 : Below w.heap.size w w3 := by rw [hw3]; exact below_drewN hB2 n
  have hq1 : ∀ q, (Value.slice A1 K.length c1).ownBlock = some q → w.heap.size ≤ q ∧ q < w1.heap.size := fun q hq => HO.out.lt q hq
  have HQ1 := Lib.hid hq1
  have HO13 := Lib.hid ho13
  have HO23 := Lib.hid ho23
  have hst := ivG_start ho13
  clear ho13 ho23 hw3 hq1 HS HO1 HO2 hB2 hb2
  go_wp2_with fail
  go_loopw [35] (fun i wr => ∃ m : Nat, m ≤ K.length ∧ i = .int .i64 (m : Int) ∧ IvG A1 K.length c1 w3 wr) (fun i _ => K.length - (intOf i).toNat)
  case atStart => exact ⟨0, Nat.zero_le _, rfl, hst⟩
  clear hst
  case round =>
    obtain ⟨m, hm, rfl, hG⟩ := hrel
    have HG := Lib.hid hG
    clear hG
    by_cases hlt : m < K.length
    · have hltI : (m : Int) < (K.length : Int) := by omega
      obtain ⟨q, cs, hA1, hb, hsz⟩ := HG.out.hq (by omega)
      subst hA1
      go_wp2_with (first
        | (refine at_sto 32 (.tmp 41) (.tmp 40) rfl ?_; go_must (refine wpList_store_over rfl 32 (.tmp 41) (.tmp 40) rfl q (m * 3) #[.int .i64 0, .int .i64 0, .string ⟨#[]⟩] rfl rfl 32 cs hb (by simp; omega) (by kernel_rfl) (by simp [Value.oneCell']) ?_)))
      go_roundw
      case rel =>
        refine ⟨m + 1, by omega, by go_num, sole_row HG.out.hg _, fun _ => ⟨q, _, rfl, Blk.row hb _, ?_⟩⟩
        simp [over]
        omega
      case measure => simp [intOf]; omega
    · have hltI : ¬ (m : Int) < (K.length : Int) := by omega
      have hBr : Below w.heap.size w wr := hB3.grown HG.out.hg hB3.size (fun q hq => (HQ1.out q hq).1)
      have ho2r := HO23.out.kept HG.out.hg (by
        cases hq : (Value.slice A2 K.length c2).ownBlock with
        | none => exact .inl rfl
        | some q => exact .inr (fun e => by have h1 := (HO23.out.lt q hq).1; have h2 := (HQ1.out q e.symm).2; omega))
      have HO2r := Lib.hid ho2r
      have HI2 := Lib.hid (HI.out wr hBr)
      clear ho2r hlt
      go_wp2_with fail
      refine HI2.out.mono ?_; rintro x w4 ⟨v4, rfl, ho4, hb4⟩
      obtain ⟨A4, c4, hv4, -, -, -⟩ := own_form ho4
      subst hv4
      have hB4 := hBr.trans (hb4.mono hBr.size)
      have hsm := same_any A4 A2 c4 c2 K K w4.heap.size w4.heap.size w4 (Rd.of_ownK ho4) (Rd.of_ownK (own_below HO2r.out hb4)) (by omega)
      rw [show decide (K = K) = true from decide_eq_true rfl] at hsm
      have HS := Lib.hid hsm
      clear hsm ho4
      go_wp2_with fail
      refine HS.out.mono ?_; rintro x w5 ⟨rfl, n2, rfl⟩
      go_wp2_with fail
      refine (alive_any _).mono ?_; rintro x w6 ⟨rfl, hb6⟩
      go_wp2_with fail
      go_ret
      exact ⟨rfl, (below_drewN hB4 n2).trans (hb6.mono hB4.size)⟩
end Go.Proofs.Ytmanafhdmijfeaa
