/- The document's Make. -/
import Derived.Test.YtemcfmneokbhkaaBest
import Derived.Test.YtemcfmneokbhkaaNums2
import Derived.Test.YtemcfmneokbhkaaGrow
namespace Go.Proofs.Ytemcfmneokbhkaa
open Go Go.RowKit

/-- The answer of Make. -/
def mkR (x : List UInt8 × Nat) : Value := .tuple #[.string (sB x.1), .int .i64 (x.2 : Int)]

/-- What stands in the loop. -/
structure MkG (base t F : List UInt8) (ga gs i : Nat) (O own : List UInt8) (w wr : World) : Prop where
  hi : i ≤ t.length
  hF : O ++ Dl.mkGo base own (t.drop i) = F
  ho : own.length ≤ i
  hT : BestTo base t ga gs 0 wr
  hB : Below w.heap.size w wr
theorem MkG.len {base t F : List UInt8} {ga gs i : Nat} {O own : List UInt8} {w wr : World} (h : MkG base t F ga gs i O own w wr) (hF : F.length ≤ 4102) : O.length ≤ 4102 := by
  have := congrArg List.length h.hF
  rw [List.length_append] at this
  omega
theorem flush_some {own : List UInt8} (h : own ≠ []) : Dl.flush own = Wi.num (2 * own.length) ++ own := by unfold Dl.flush; rw [if_neg h]
theorem num_size {n : Nat} (h : n < 9223372036854775808) : (sB (Wi.num n)).size ≤ 9 := by rw [sB_size]; exact Wi.num_len_nine h
theorem sB_isEmpty {l : List UInt8} (h : l ≠ []) : (sB l).toList.isEmpty = false ∧ ¬ (sB l).toList = [] := by
  rw [sB_toList]; exact ⟨by cases l; exact absurd rfl h; rfl, h⟩

set_option maxRecDepth 100000 in
set_option maxHeartbeats 16000000 in
theorem refMake_any (base t : List UInt8) (w : World) (hbl : base.length ≤ 4611686018427387904) (htl : t.length ≤ 4611686018427387904) :
    Calls Try.prog 12 #[.string (sB base), .string (sB t)] w (Ret (mkR (Dl.makeD base t)) w) := by
  have hsb := sB_size base
  have hst := sB_size t
  by_cases ha : 4096 < base.length
  · rw [show Dl.makeD base t = ([], 3) from by unfold Dl.makeD; rw [if_pos (.inl ha)]]
    have hd : decide ((4096 : Int) < (base.length : Int)) = true := decide_eq_true (by omega)
    clear ha
    go_enter Try.func12, Try.ntmps12
    go_wp2_with fail
    go_ret2
    exact ⟨rfl, Below.refl _ _⟩
  by_cases hb : 4096 < t.length
  · rw [show Dl.makeD base t = ([], 3) from by unfold Dl.makeD; rw [if_pos (.inr hb)]]
    have hd0 : decide ((4096 : Int) < (base.length : Int)) = false := decide_eq_false (by omega)
    have hd : decide ((4096 : Int) < (t.length : Int)) = true := decide_eq_true (by omega)
    clear ha hb
    go_enter Try.func12, Try.ntmps12
    go_wp2_with fail
    go_ret2
    exact ⟨rfl, Below.refl _ _⟩
  have ha' : base.length ≤ 4096 := by omega
  have hb' : t.length ≤ 4096 := by omega
  have HFL := Lib.hid (Dl.makeD_len ha' hb')
  have HMD := Lib.hid (show Dl.makeD base t = (Wi.num base.length ++ (Wi.num t.length ++ Dl.mkGo base [] t), 0) by unfold Dl.makeD; rw [if_neg (by omega)])
  rw [HMD.out] at HFL ⊢
  obtain ⟨F, hF⟩ : ∃ F, F = Wi.num base.length ++ (Wi.num t.length ++ Dl.mkGo base [] t) := ⟨_, rfl⟩
  rw [← hF] at HFL ⊢
  have HF := Lib.hid hF
  have HFL2 := Lib.hid (show F.length ≤ 4102 by have := HFL.out; simp only [] at this; omega)
  have hd0 : decide ((4096 : Int) < (base.length : Int)) = false := decide_eq_false (by omega)
  have hd1 : decide ((4096 : Int) < (t.length : Int)) = false := decide_eq_false (by omega)
  have HBE := Lib.hid (best_any base t ha' hb' w)
  have HNUM := Lib.hid (fun n (w : World) (h : n < 9223372036854775808) => refNum_any n n w (Nat.le_refl _) h)
  clear ha hb hF HFL HMD
  go_enter Try.func12, Try.ntmps12
  go_wp2_with fail
  refine HBE.out.mono ?_; rintro e w1 ⟨ga, gs, rfl, hT1, hb1⟩
  have HT1 := Lib.hid hT1
  have HB1 := Lib.hid hb1
  clear hT1 hb1 hd0 hd1 HBE
  go_wp2_with fail
  refine (HNUM.out base.length w1 (by omega)).mono ?_; rintro e w2 ⟨rfl, hb2⟩
  go_wp2_with fail
  refine (HNUM.out t.length w2 (by omega)).mono ?_; rintro e w3 ⟨rfl, hb3⟩
  have hz1 := num_size (n := base.length) (by omega)
  have hz2 := num_size (n := t.length) (by omega)
  have hz : ¬ 9223372036854775807 < (sB (Wi.num base.length)).size + (sB (Wi.num t.length)).size := by omega
  have HB3 := Lib.hid (HB1.out.trans ((hb2.trans (hb3.mono hb2.size)).mono HB1.out.size))
  have HT3 := Lib.hid (HT1.out.later (hb2.trans (hb3.mono hb2.size)))
  clear hb2 hb3 HT1 HB1
  go_wp2_with fail
  clear hz hz1 hz2
  go_loopw [8, 9, 10] (fun ov wv iv wr => ∃ (i : Nat) (O own : List UInt8), ov = .string (sB O) ∧ wv = .string (sB own) ∧ iv = .int .i64 (i : Int) ∧ MkG base t F ga gs i O own w wr) (fun _ _ iv _ => t.length - (intOf iv).toNat)
  case atStart => exact ⟨0, Wi.num base.length ++ Wi.num t.length, [], by rw [sB_append], rfl, rfl, ⟨Nat.zero_le _, by rw [HF.out, List.drop_zero, List.append_assoc], Nat.le_refl _, HT3.out, HB3.out⟩⟩
  clear HT3 HB3
  case round =>
    obtain ⟨i, O, own, rfl, rfl, rfl, hG⟩ := hrel
    have HG := Lib.hid hG
    have hol := hG.ho
    have hOl := hG.len HFL2.out
    have hil := hG.hi
    have hso := sB_size own
    have hsO := sB_size O
    clear hG
    have hn2 : (sB (Wi.num (2 * own.length))).size ≤ 9 := num_size (by omega)
    have hw2 : IntKind.i64.wrap (2 * (own.length : Int)) = ((2 * own.length : Nat) : Int) := by rw [Int.natCast_mul]; exact IntWalk.i64_in _ (by omega)
    have HN2 := Lib.hid (fun w => HNUM.out (2 * own.length) w (by omega))
    obtain ⟨n2, hn2e⟩ : ∃ n, n = 2 * own.length := ⟨_, rfl⟩
    rw [← hn2e] at hn2 hw2 HN2
    have HN2E := Lib.hid hn2e
    clear hn2e
    have hz3 : ¬ 9223372036854775807 < (sB O).size + (sB (Wi.num n2)).size := by omega
    have hz4 : ¬ 9223372036854775807 < (sB O).size + (sB (Wi.num n2)).size + (sB own).size := by omega
    by_cases hlt : i < t.length
    · have hltI : (i : Int) < (t.length : Int) := by omega
      obtain ⟨cA, cS⟩ := HG.out.hT.cells hlt
      have hone := fun w => run_str_one (P := Try.prog) Try.underlying9 t i hlt w
      have HDR := Lib.hid (List.drop_eq_getElem_cons hlt)
      obtain ⟨x, hx⟩ : ∃ x, x = t[i] := ⟨_, rfl⟩
      rw [← hx] at hone HDR
      have HF1 := Lib.hid HG.out.hF
      rw [HDR.out] at HF1
      rw [HDR.out] at cA cS
      have HSP := Lib.hid (Dl.bestOf_spec base (x :: t.drop (i + 1)))
      have HOW := Lib.hid (fun h => Dl.mkGo_own (base := base) (own := own) (x := x) (r := t.drop (i + 1)) h)
      have HCO := Lib.hid (fun h => Dl.mkGo_copy (base := base) (own := own) (x := x) (r := t.drop (i + 1)) h)
      obtain ⟨k, hk⟩ : ∃ k, k = (Dl.bestOf base (x :: t.drop (i + 1))).1 := ⟨_, rfl⟩
      obtain ⟨s, hs⟩ : ∃ k, k = (Dl.bestOf base (x :: t.drop (i + 1))).2 := ⟨_, rfl⟩
      rw [← hk] at cA HSP HCO
      rw [← hs] at cS HSP HOW HCO
      have HKe := Lib.hid hk
      have HSe := Lib.hid hs
      clear hx hk hs
      by_cases hs8 : s < 8
      · have hd8 : decide ((s : Int) < 8) = true := decide_eq_true (by omega)
        have hz5 : ¬ 9223372036854775807 < (sB own).size + (sB [x]).size := by rw [hso, sB_size]; simp; omega
        have HF2 := Lib.hid HF1.out
        rw [HOW.out hs8] at HF2
        go_wp2_with fail
        go_roundw
        case rel => exact ⟨i + 1, O, own ++ [x], rfl, by rw [sB_append], by go_num, ⟨by omega, HF2.out, by simp; omega, HG.out.hT, HG.out.hB⟩⟩
        case measure => simp [intOf]; omega
      · have hd8 : decide ((s : Int) < 8) = false := decide_eq_false (by omega)
        have hsl : s ≤ t.length - i := by have := HSP.out.1; simp only [List.length_cons, List.length_drop] at this; omega
        have hkl : k < base.length := by rcases HSP.out.2 with h | h <;> omega
        have HF2 := Lib.hid HF1.out
        rw [HCO.out hs8, ← HDR.out, List.drop_drop] at HF2
        have hw3 : IntKind.i64.wrap (2 * (s : Int)) = 2 * (s : Int) := IntWalk.i64_in _ (by omega)
        have hw4 : IntKind.i64.wrap (2 * (s : Int) + 1) = ((2 * s + 1 : Nat) : Int) := by rw [Int.natCast_add, Int.natCast_mul]; exact IntWalk.i64_in _ (by omega)
        have HN3 := Lib.hid (fun w => HNUM.out (2 * s + 1) w (by omega))
        have HN4 := Lib.hid (fun w => HNUM.out k w (by omega))
        have hn3 : (sB (Wi.num (2 * s + 1))).size ≤ 9 := num_size (by omega)
        have hn4 : (sB (Wi.num k)).size ≤ 9 := num_size (by omega)
        obtain ⟨n3, hn3e⟩ : ∃ n, n = 2 * s + 1 := ⟨_, rfl⟩
        rw [← hn3e] at hw4 HN3 hn3 HF2
        clear hn3e HOW HCO HF1
        by_cases hown : own = []
        · subst hown
          have hem : (sB []).toList.isEmpty = true := by rw [sB_toList]; rfl
          have hem2 : (sB []).toList = [] := sB_toList []
          have hz6 : ¬ 9223372036854775807 < (sB O).size + (sB (Wi.num n3)).size := by omega
          have hz7 : ¬ 9223372036854775807 < (sB O).size + (sB (Wi.num n3)).size + (sB (Wi.num k)).size := by omega
          have HF3 := Lib.hid HF2.out
          rw [show Dl.flush [] = [] from rfl, List.nil_append] at HF3
          go_wp2_with fail
          have hgA := fun u : Grw wr => (by have h := (((HG.out.hT).later u.prop).cells hlt).1; rw [HDR.out, ← HKe.out] at h; exact h : u.val.cell? ⟨ga, i, none⟩ = some (.int .i64 (k : Int)))
          have hgS := fun u : Grw wr => (by have h := (((HG.out.hT).later u.prop).cells hlt).2; rw [HDR.out, ← HSe.out] at h; exact h : u.val.cell? ⟨gs, i, none⟩ = some (.int .i64 (s : Int)))
          have hw5 : IntKind.i64.wrap ((i : Int) + (s : Int)) = (i : Int) + (s : Int) := IntWalk.i64_in _ (by omega)
          refine wp_region_grow (by kernel_rfl) (by kernel_rfl) ?_
          go_big_quiet_step (fail)
          go_big_quiet_step (fail)
          go_big_quiet_step (fail)
          go_big_quiet_step (fail)
          go_big_quiet_step (fail)
          go_big_quiet_step (fail)
          go_big_quiet_step (fail)
          go_big_quiet_step ((go_at_call 23; exact grow_call (HN3.out _)))
          go_big_quiet_step (fail)
          go_big_quiet_step (fail)
          go_big_quiet_step (fail)
          go_big_quiet_step (fail)
          go_big_quiet_step (fail)
          go_big_quiet_step ((go_at_call 23; exact grow_call (HN4.out _)))
          go_big_quiet_step (fail)
          go_big_quiet_step (fail)
          refine wpQuiet_nil ?_
          first | (intro _ hw'; obtain ⟨u, hw''⟩ := hw'; subst hw'') | intro u
          go_wp2_with fail
          go_roundw
          case rel => exact ⟨i + s, O ++ (Wi.num n3 ++ Wi.num k), [], by rw [sB_append, sB_append, ByteArray.append_assoc], rfl, by go_num, ⟨by omega, by rw [← HF3.out]; simp only [List.append_assoc], by simp, (HG.out.hT).later u.prop, (HG.out.hB).trans (u.prop.mono (HG.out.hB).size)⟩⟩
          case measure => simp [intOf]; omega
        · obtain ⟨hem, hem2⟩ := sB_isEmpty hown
          have HF3 := Lib.hid HF2.out
          rw [flush_some hown, ← HN2E.out] at HF3
          go_wp2_with fail
          refine (HN2.out wr).mono ?_; rintro e w2 ⟨rfl, hb2⟩
          have HT2 := Lib.hid (HG.out.hT.later hb2)
          have HB2 := Lib.hid (HG.out.hB.trans (hb2.mono HG.out.hB.size))
          clear hb2
          obtain ⟨O2, hO2⟩ : ∃ P, P = O ++ (Wi.num n2 ++ own) := ⟨_, rfl⟩
          have HO2 := Lib.hid hO2
          have hsO2 : (sB O2).size ≤ 8300 := by rw [hO2, sB_size]; rw [sB_size] at hn2; simp only [List.length_append]; omega
          have hje : sB O ++ sB (Wi.num n2) ++ sB own = sB O2 := by rw [hO2, sB_append, sB_append, ByteArray.append_assoc]
          have hz6 : ¬ 9223372036854775807 < (sB O2).size + (sB (Wi.num n3)).size := by omega
          have hz7 : ¬ 9223372036854775807 < (sB O2).size + (sB (Wi.num n3)).size + (sB (Wi.num k)).size := by omega
          clear hO2
          go_wp2_with fail
          have hgA := fun u : Grw w2 => (by have h := (((HT2.out).later u.prop).cells hlt).1; rw [HDR.out, ← HKe.out] at h; exact h : u.val.cell? ⟨ga, i, none⟩ = some (.int .i64 (k : Int)))
          have hgS := fun u : Grw w2 => (by have h := (((HT2.out).later u.prop).cells hlt).2; rw [HDR.out, ← HSe.out] at h; exact h : u.val.cell? ⟨gs, i, none⟩ = some (.int .i64 (s : Int)))
          have hw5 : IntKind.i64.wrap ((i : Int) + (s : Int)) = (i : Int) + (s : Int) := IntWalk.i64_in _ (by omega)
          refine wp_region_grow (by kernel_rfl) (by kernel_rfl) ?_
          go_big_quiet_step (fail)
          go_big_quiet_step (fail)
          go_big_quiet_step (fail)
          go_big_quiet_step (fail)
          go_big_quiet_step (fail)
          go_big_quiet_step (fail)
          go_big_quiet_step (fail)
          go_big_quiet_step ((go_at_call 23; exact grow_call (HN3.out _)))
          go_big_quiet_step (fail)
          go_big_quiet_step (fail)
          go_big_quiet_step (fail)
          go_big_quiet_step (fail)
          go_big_quiet_step (fail)
          go_big_quiet_step ((go_at_call 23; exact grow_call (HN4.out _)))
          go_big_quiet_step (fail)
          go_big_quiet_step (fail)
          refine wpQuiet_nil ?_
          first | (intro _ hw'; obtain ⟨u, hw''⟩ := hw'; subst hw'') | intro u
          go_wp2_with fail
          go_roundw
          case rel => exact ⟨i + s, O2 ++ (Wi.num n3 ++ Wi.num k), [], by rw [sB_append, sB_append, ByteArray.append_assoc], rfl, by go_num, ⟨by omega, by rw [← HF3.out, HO2.out]; simp only [List.append_assoc], by simp, (HT2.out).later u.prop, (HB2.out).trans (u.prop.mono (HB2.out).size)⟩⟩
          case measure => simp [intOf]; omega
    · have hltI : ¬ (i : Int) < (t.length : Int) := by omega
      obtain rfl : i = t.length := by omega
      have HF1 := Lib.hid HG.out.hF
      rw [List.drop_length, Dl.mkGo_nil] at HF1
      by_cases hown : own = []
      · subst hown
        have hem : (sB []).toList.isEmpty = true := by rw [sB_toList]; rfl
        have hem2 : (sB []).toList = [] := sB_toList []
        rw [show Dl.flush [] = [] from rfl, List.append_nil] at HF1
        go_wp2_with fail
        go_ret2
        exact ⟨by rw [HF1.out]; rfl, HG.out.hB⟩
      · obtain ⟨hem, hem2⟩ := sB_isEmpty hown
        rw [flush_some hown, ← HN2E.out] at HF1
        go_wp2_with fail
        refine (HN2.out wr).mono ?_; rintro e w2 ⟨rfl, hb2⟩
        have HB2 := Lib.hid (HG.out.hB.trans (hb2.mono HG.out.hB.size))
        clear hb2
        go_wp2_with fail
        go_ret2
        exact ⟨by rw [← HF1.out]; unfold mkR; rw [sB_append, sB_append, ByteArray.append_assoc]; rfl, HB2.out⟩
end Go.Proofs.Ytemcfmneokbhkaa
